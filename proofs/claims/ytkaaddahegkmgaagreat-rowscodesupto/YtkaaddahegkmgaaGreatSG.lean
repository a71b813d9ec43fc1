/- Lists in the making; the contracts of decode of a branch, of decodeAll. -/
import Derived.Test.YtkaaddahegkmgaaGreatSF
import Derived.Test.YtkaaddahegkmgaaGreatRF
import Derived.Deep.DeepCutAuto
namespace Go.Proofs.YtkaaddahegkmgaaGreat
open Go.ChangeShapes Go.WideShapes Go.ChangeAt Go.RowKit
theorem belN1 (w : World) : Below w.heap.size w w.drew := (Below.refl _ w).drew
theorem Bk.set' {w : World} {g G i : Nat} {cs : Array Value} {t : TypeId} {v : Value} (h : Bk w g cs t) (hne : G ≠ g) : Bk (w.setCell ⟨G, i, none⟩ v) g cs t := (Below.heap_setCell _ _ _ _ (fun e => hne e.symm)).trans h
theorem rdL_succ {α : Type} (f : List UInt8 → Int → α × List UInt8 × Int) : ∀ (n : Nat) (l : List UInt8) (e : Int), rdL f (n + 1) l e = ((rdL f n l e).1 ++ [(f (rdL f n l e).2.1 (rdL f n l e).2.2).1], (f (rdL f n l e).2.1 (rdL f n l e).2.2).2)
  | 0, l, e => rfl
  | n + 1, l, e => by
    rw [rdL, rdL_succ f n]
    rfl
theorem rdL_len {α : Type} (f : List UInt8 → Int → α × List UInt8 × Int) : ∀ (n : Nat) (l : List UInt8) (e : Int), (rdL f n l e).1.length = n
  | 0, _, _ => rfl
  | n + 1, l, e => by rw [rdL, List.length_cons, rdL_len f n]
/-- A list in the making, in the block G: its first items are xs, and what they have lies in blocks from q0 on. -/
structure Mk {α : Type} (E : El α) (q0 G : Nat) (W : World) (cs : Array Value) (xs : List α) : Prop where
  row : Bk W G cs E.ty
  item : ∀ i x, xs[i]? = some x → ∃ ys, (∀ (r : Nat) z, ys[r]? = some z → cs[i * E.K + r]? = some z) ∧ E.I (fun q => q0 ≤ q) W ys x
theorem Mk.step {α : Type} {E : El α} {q0 G : Nat} {W W' : World} {cs cs' : Array Value} {xs : List α} {x : α} {ys : List Value} (m : Mk E q0 G W cs xs) (hr : Bk W' G cs' E.ty) (hc : ∀ i, i < xs.length * E.K → cs'[i]? = cs[i]?)
    (hk : ∀ q, q0 ≤ q → q < W.heap.size → W'.heap[q]? = W.heap[q]?) (hy : ∀ (r : Nat) z, ys[r]? = some z → cs'[xs.length * E.K + r]? = some z) (hI : E.I (fun q => q0 ≤ q) W' ys x) : Mk E q0 G W' cs' (xs ++ [x]) := by
  refine ⟨hr, fun i y hy' => ?_⟩
  by_cases hlt : i < xs.length
  · rw [List.getElem?_append_left hlt] at hy'
    obtain ⟨zs, h1, h2⟩ := m.item i y hy'
    refine ⟨zs, fun r z hz => ?_, E.keep h2 fun q hq hl => ⟨hk q hq hl, hq⟩⟩
    have hrl := (List.getElem?_eq_some_iff.1 hz).1
    rw [E.len h2] at hrl
    rw [hc _ (idx_lt hlt hrl)]
    exact h1 r z hz
  · have hi : i = xs.length := by
      have := (List.getElem?_eq_some_iff.1 hy').1
      rw [List.length_append] at this
      simp only [List.length_cons, List.length_nil] at this
      omega
    subst hi
    rw [List.getElem?_append_right (Nat.le_refl _), Nat.sub_self] at hy'
    cases hy'
    exact ⟨ys, hy, hI⟩
theorem Mk.sl {α : Type} {E : El α} {P : Nat → Prop} {q0 G n : Nat} {W : World} {cs : Array Value} {xs : List α} (m : Mk E q0 G W cs xs) (hn : xs.length = n) (hm : n ≤ 9223372036854775807) (hP : ∀ q, q0 ≤ q → P q) (hG : P G) : Sl E P W (.slice (some ⟨G, 0, none⟩) n n) xs := by
  subst hn
  refine ⟨_, _, rfl, Nat.le_refl _, hm, fun i x hx => ?_⟩
  obtain ⟨ys, h1, h2⟩ := m.item i x hx
  refine ⟨G, 0, ys, rfl, fun _ => hG, fun r z hz => ?_, E.keep h2 fun q hq _ => ⟨rfl, hP q hq⟩⟩
  rw [Nat.zero_add, m.row.cell]
  exact h1 r z hz
theorem Mk.nil {α : Type} {E : El α} {q0 : Nat} (W : World) (cs : Array Value) : Mk E q0 W.heap.size (W.alloc (.cells cs E.ty)) cs [] := ⟨Bk.new W cs E.ty, fun i x h => by simp at h⟩
def zEv : Value := .slice none 0 0
def zRw : Value := .agg #[.string ⟨#[]⟩, .int .i64 0, .slice none 0 0]
def zBn : Value := .agg #[.string ⟨#[]⟩, .slice none 0 0]
def zeE (n : Nat) : Array Value := madeCells zEv.cells (n * 1)
def zeR (n : Nat) : Array Value := madeCells zRw.cells (n * 3)
def zeB (n : Nat) : Array Value := madeCells zBn.cells (n * 2)
theorem zeE_size (n : Nat) : (zeE n).size = n := by rw [zeE, size_madeCells, Nat.mul_one]
theorem zeR_size (n : Nat) : (zeR n).size = n * 3 := size_madeCells _ _
theorem zeB_size (n : Nat) : (zeB n).size = n * 2 := size_madeCells _ _
theorem info26m : (Tryz.prog.info? 26).map (fun i => (i.zero, i.size, i.bytes)) = some (some zEv, 1, 24) := by kernel_rfl
theorem info37m : (Tryz.prog.info? 47).map (fun i => (i.zero, i.size, i.bytes)) = some (some zRw, 3, 48) := by kernel_rfl
theorem info56m : (Tryz.prog.info? 39).map (fun i => (i.zero, i.size, i.bytes)) = some (some zBn, 2, 40) := by kernel_rfl
theorem make_evR (k : Nat) (h : k ≤ 10000) (w : World) : (Instr.makeSlice 37 (.int .i64 (k : Int)) (.int .i64 (k : Int))).run Tryz.prog w = .ok (.slice (some ⟨w.heap.size, 0, none⟩) k k) (w.alloc (.cells (zeE k) 26)) := by
  obtain ⟨i0, hi, hz0, hz1, hz2⟩ := info_parts info26m
  rw [run_make (P := Tryz.prog) w 37 26 i0 zEv Tryz.underlying37 hi hz0 .i64 .i64 k k (by omega) (by omega) (by rw [hz2]; omega) (by omega)]
  rw [Int.toNat_natCast, hz1]
  rfl
theorem make_rwR (k : Nat) (h : k ≤ 10000) (w : World) : (Instr.makeSlice 22 (.int .i64 (k : Int)) (.int .i64 (k : Int))).run Tryz.prog w = .ok (.slice (some ⟨w.heap.size, 0, none⟩) k k) (w.alloc (.cells (zeR k) 47)) := by
  obtain ⟨i0, hi, hz0, hz1, hz2⟩ := info_parts info37m
  rw [run_make (P := Tryz.prog) w 22 47 i0 zRw Tryz.underlying22 hi hz0 .i64 .i64 k k (by omega) (by omega) (by rw [hz2]; omega) (by omega)]
  rw [Int.toNat_natCast, hz1]
  rfl
theorem make_bnR (k : Nat) (h : k ≤ 10000) (w : World) : (Instr.makeSlice 23 (.int .i64 (k : Int)) (.int .i64 (k : Int))).run Tryz.prog w = .ok (.slice (some ⟨w.heap.size, 0, none⟩) k k) (w.alloc (.cells (zeB k) 39)) := by
  obtain ⟨i0, hi, hz0, hz1, hz2⟩ := info_parts info56m
  rw [run_make (P := Tryz.prog) w 23 39 i0 zBn Tryz.underlying23 hi hz0 .i64 .i64 k k (by omega) (by omega) (by rw [hz2]; omega) (by omega)]
  rw [Int.toNat_natCast, hz1]
  rfl
theorem num_top {m : Int} (hm : 0 ≤ m) (l : List UInt8) (e : Int) : (sNum m l e).1 ≤ m := by
  unfold sNum
  split
  · split
    · split
      · simpa using hm
      · simp; omega
    · simpa using hm
  · simpa using hm
/-- Where decode stands among a branch's events. -/
def LpE (g h B G q0 n j : Nat) (csB : Array Value) (W : World) (es : Array Value) (r : List (List UInt8) × List UInt8 × Int) : Prop :=
  Mk evE q0 G W es r.1 ∧ St W g h r.2.1 r.2.2 ∧ Bk W B csB 39 ∧ es.size = n ∧ r.1.length = j ∧ q0 ≤ W.heap.size
/-- What decode leaves of a branch. -/
def DbP (g h B o : Nat) (cs : Array Value) (w : World) (r : Bn × List UInt8 × Int) (x : Ending) (w' : World) : Prop :=
  x = .returned (.tuple #[]) ∧ ∃ v, Bk w' B ((cs.setIfInBounds o (.string r.1.key)).setIfInBounds (o + 1) v) 39 ∧ Sl evE (fun q => w.heap.size ≤ q) w' v r.1.ev ∧ St w' g h r.2.1 r.2.2 ∧ K2 g B w w'
set_option maxHeartbeats 8000000 in
set_option maxRecDepth 100000 in
theorem decBr_calls (g h B o : Nat) (cs : Array Value) (l : List UInt8) (e : Int) (w : World) (st : St w g h l e) (hb : Bk w B cs 39) (h1 : B ≠ g) (h2 : B ≠ h) (hh : h < w.heap.size) (ho : o + 1 < cs.size) :
    Calls Tryz.prog 42 #[.pointer (some ⟨g, 0, none⟩), .pointer (some ⟨B, o, none⟩)] w (DbP g h B o cs w (rdBn l e)) := by
  obtain ⟨q1, hq1⟩ : ∃ q, sText 64 l e = q := ⟨_, rfl⟩
  obtain ⟨q2, hq2⟩ : ∃ q, sNum 120 q1.2.1 q1.2.2 = q := ⟨_, rfl⟩
  have hlo : 0 ≤ q2.1 := by rw [← hq2]; exact sNum_nat _ _ _
  have hhi : q2.1 ≤ 120 := by rw [← hq2]; exact num_top (by decide) _ _
  obtain ⟨n, hn⟩ : ∃ n : Nat, q2.1 = (n : Int) := ⟨q2.1.toNat, by omega⟩
  have hrd : rdBn l e = (⟨str q1.1, (rdL (sText 4096) n q2.2.1 q2.2.2).1⟩, (rdL (sText 4096) n q2.2.1 q2.2.2).2) := by
    unfold rdBn rdN
    dsimp only
    rw [hq1, hq2, hn, Int.toNat_natCast]
  rw [hrd]
  have T1 : Hid (Calls Tryz.prog 73 #[.pointer (some ⟨g, 0, none⟩), .int .i64 64] w (Rs w g h (.string (str q1.1)) q1.2.1 q1.2.2)) := by rw [← hq1]; exact text_st w g h l e 64 st
  have T2 : Hid (∀ W, St W g h q1.2.1 q1.2.2 → Calls Tryz.prog 40 #[.pointer (some ⟨g, 0, none⟩), .int .i64 120] W (Rs W g h (.int .i64 (n : Int)) q2.2.1 q2.2.2)) := fun W s => by rw [← hn, ← hq2]; exact num_st W g h _ _ _ s
  have hn120 : n ≤ 120 := by omega
  obtain ⟨s1, l1, e1⟩ := q1
  obtain ⟨n2, l2, e2⟩ := q2
  dsimp only at T1 T2 ⊢
  have HB0 : Hid (Bk w B cs 39) := hb
  have HN0 : Hid (B ≠ g ∧ B ≠ h ∧ h < w.heap.size ∧ o + 1 < cs.size ∧ B < w.heap.size ∧ n ≤ 120 ∧ g < w.heap.size) := ⟨h1, h2, hh, ho, hb.lt, hn120, st.lt⟩
  have mk := make_evR n (by omega)
  clear hrd hq1 hq2 hn hlo hhi st hb h1 h2 hh ho hn120
  go_enter Tryz.func42, Tryz.ntmps42
  go_wp2_with (simp only [ta98, ta9n])
  refine T1.out.mono ?_
  rintro x w1 ⟨rfl, st1, kb1⟩
  have hb1 : Bk w1 B cs 39 := (kb1.2.2.2.2 B HN0.out.2.2.2.2.1 HN0.out.1).trans HB0.out
  have HB1 : Hid (Bk w1 B cs 39 ∧ St w1 g h l1 e1 ∧ K2 g B w w1) := ⟨hb1, st1, K2.of_kb kb1⟩
  have c0 : w1.cell? ⟨B, o, none⟩ = some (cs[o]'(by have := HN0.out; omega)) := (hb1.cell o).trans (Array.getElem?_eq_getElem _)
  have f0 := hb1.frozen o
  clear hb1 st1 kb1 T1
  go_wp2_with fail
  have hb2 := HB1.out.1.set o (.string (str s1))
  have st2 : St (w1.setCell ⟨B, o, none⟩ (.string (str s1))) g h l1 e1 := HB1.out.2.1.put HN0.out.1 HN0.out.2.1
  have k2 : K2 g B w (w1.setCell ⟨B, o, none⟩ (.string (str s1))) := HB1.out.2.2.put
  have HB2 : Hid (_ ∧ _ ∧ _) := ⟨hb2, st2, k2⟩
  clear c0 f0 hb2 st2 k2 HB1
  generalize w1.setCell ⟨B, o, none⟩ (.string (str s1)) = w2 at HB2 ⊢
  refine (T2.out w2 HB2.out.2.1).mono ?_
  rintro x w3 ⟨rfl, st3, kb3⟩
  have hb3 : Bk w3 B _ 39 := (kb3.2.2.2.2 B HB2.out.1.lt HN0.out.1).trans HB2.out.1
  have k3 : K2 g B w w3 := HB2.out.2.2.trans (K2.of_kb kb3)
  have hbA := bel1 w3 (.cells (zeE n) 26)
  have hb4 := hb3.below hbA
  have st4 : St (w3.alloc (.cells (zeE n) 26)) g h l2 e2 := st3.keep (hbA.block g st3.lt) (hbA.block h (by have := HN0.out; have := k3.2.2.2.1; omega))
  have mk4 : Mk evE (w3.heap.size + 1) w3.heap.size (w3.alloc (.cells (zeE n) 26)) (zeE n) [] := Mk.nil w3 _
  have HB4 : Hid (_ ∧ _ ∧ _ ∧ _) := ⟨hb4, st4, k3.trans (K2.of_below hbA), mk4⟩
  have HZ4 : Hid (w.heap.size ≤ w3.heap.size ∧ (w3.alloc (.cells (zeE n) 26)).heap.size = w3.heap.size + 1) := ⟨k3.2.2.2.1, by simp⟩
  have c0 : (w3.alloc (.cells (zeE n) 26)).cell? ⟨B, o + 1, none⟩ = some ((cs.setIfInBounds o (.string (str s1)))[o + 1]'(by have := HN0.out; simp; omega)) := (hb4.cell (o + 1)).trans (Array.getElem?_eq_getElem _)
  have f0 := hb4.frozen (o + 1)
  clear hb3 st3 kb3 k3 hbA hb4 st4 mk4 T2 HB2
  go_upto_region 10 with fail
  clear c0 f0 mk
  generalize hG : w3.heap.size = G at HB4 HZ4 ⊢
  generalize w3.alloc (.cells (zeE n) 26) = w4 at HB4 HZ4 ⊢
  clear hG
  obtain ⟨csB, hcsB⟩ : ∃ c, c = (cs.setIfInBounds o (.string (str s1))).setIfInBounds (o + 1) (.slice (some ⟨G, 0, none⟩) n n) := ⟨_, rfl⟩
  have HCB : Hid (csB[o + 1]? = some (.slice (some ⟨G, 0, none⟩) n n)) := by
    show _ = _
    rw [hcsB, Array.getElem?_setIfInBounds_self_of_lt (by have := HN0.out; simp; omega)]
  have HCS : Hid (csB = _) := hcsB
  obtain ⟨q0, hq0⟩ : ∃ q, q = G + 1 := ⟨_, rfl⟩
  have hGB : G ≠ B := fun e => by have := HN0.out; have := HZ4.out; omega
  have HN : Hid (B ≠ g ∧ B ≠ h ∧ h < w.heap.size ∧ B < w.heap.size ∧ n ≤ 120 ∧ g < w.heap.size ∧ w.heap.size ≤ G ∧ q0 = G + 1) := ⟨HN0.out.1, HN0.out.2.1, HN0.out.2.2.1, HN0.out.2.2.2.2.1, HN0.out.2.2.2.2.2.1, HN0.out.2.2.2.2.2.2, HZ4.out.1, hq0⟩
  have HS0 : Hid (LpE g h B G q0 n 0 csB (w4.setCell ⟨B, o + 1, none⟩ (.slice (some ⟨G, 0, none⟩) n n)) (zeE n) (rdL (sText 4096) 0 l2 e2)) :=
    ⟨⟨HB4.out.2.2.2.row.set' hGB.symm, fun i x hx => by simp [rdL] at hx⟩, HB4.out.2.1.put HN.out.1 HN.out.2.1, by rw [hcsB]; exact HB4.out.1.set (o + 1) _, zeE_size n, rfl, by simp only [World.setCell, Array.size_modify]; have := HZ4.out.2; omega⟩
  have HK0 : Hid (K2 g B w (w4.setCell ⟨B, o + 1, none⟩ (.slice (some ⟨G, 0, none⟩) n n))) := HB4.out.2.2.1.put
  have k0 := (HS0.out.2.2.1.cell (o + 1)).trans HCB.out
  clear hcsB hq0 hGB HB4 HB0 HZ4 HN0
  generalize w4.setCell ⟨B, o + 1, none⟩ (.slice (some ⟨G, 0, none⟩) n n) = w5 at HS0 HK0 k0 ⊢
  go_wp2_with fail
  clear k0
  go_loopw [6, 47] (fun _ i wr => ∃ (j : Nat) (es : Array Value), j ≤ n ∧ i = .int .i64 (j : Int) ∧ Hid (LpE g h B G q0 n j csB wr es (rdL (sText 4096) j l2 e2)) ∧ Hid (K2 g B w wr)) (fun _ i _ => n - (intOf i).toNat)
  case atStart => exact ⟨0, _, Nat.zero_le _, rfl, HS0, HK0⟩
  case round =>
    obtain ⟨j, es, hj, rfl, HS, HKK⟩ := hrel
    by_cases hlt : j < n
    · have hjl : (j : Int) < (n : Int) := by omega
      have HW : Hid (wrap64 ((j : Int) + 1) = ((j + 1 : Nat) : Int)) := wr1 hlt (by have := HN.out; omega)
      have c1 := (HS.out.2.2.1.cell (o + 1)).trans HCB.out
      obtain ⟨p, hp⟩ : ∃ p, rdL (sText 4096) j l2 e2 = p := ⟨_, rfl⟩
      obtain ⟨q, hq⟩ : ∃ q, sText 4096 p.2.1 p.2.2 = q := ⟨_, rfl⟩
      have HQ : Hid (rdL (sText 4096) (j + 1) l2 e2 = (p.1 ++ [q.1], q.2)) := by
        show _ = _
        rw [rdL_succ, hp, hq]
      rw [hp] at HS
      have HY : Hid (q.1.length ≤ 4096) := by
        have := text_small 4096 (by decide) (by decide) p.2.1 p.2.2
        rw [hq] at this
        show _ ≤ _
        omega
      have TC : Hid (∀ W, St W g h p.2.1 p.2.2 → Calls Tryz.prog 73 #[.pointer (some ⟨g, 0, none⟩), .int .i64 4096] W (Rs W g h (.string (str q.1)) q.2.1 q.2.2)) := fun W s => by rw [← hq]; exact text_st W g h _ _ _ s
      obtain ⟨y, hy⟩ : ∃ y, q.1 = y := ⟨_, rfl⟩
      rw [hy] at HQ HY TC
      clear hj hp hq hy
      go_upto_region 13 with fail
      refine wp_region_held_drew (S := (fun W => W.cell? ⟨B, o + 1, none⟩ = some (.slice (some ⟨G, 0, none⟩) n n))) (by kernel_rfl) c1 (fun hHeld => ?_)
      change wpAnyH _ _ _ _ _ _ _ _ (World.drew _)
      refine wpAnyH_take (i := 0) (oi := { dst := some 50, op := Go.Op.move (Go.Operand.tmp 5), type := 79, pos := "rows.go:223", after := #[], guard := none }) (v := ?_) rfl (by kernel_rfl) (by kernel_rfl) (by kernel_rfl) (fun _ _ _ h => h) (Or.inl ⟨by rfl, ?_⟩) hHeld ?_
      rotate_left 1
      · (intro w hSw; (try dsimp only at hSw); go_simp <;> with_reducible rfl)
      simp only [Act.put, List.setIfInBounds_toArray, List.set_cons_zero, List.set_cons_succ]
      refine wpAnyH_take (i := 1) (oi := { dst := some 51, op := Go.Op.nilCheck (Go.Operand.tmp 50), type := 0, pos := "rows.go:223", after := #[{ on := 0, ground := Go.Ground.data }], guard := none }) (v := ?_) rfl (by kernel_rfl) (by kernel_rfl) (by kernel_rfl) (fun _ _ _ h => h) (Or.inl ⟨by rfl, ?_⟩) hHeld ?_
      rotate_left 1
      · (intro w hSw; (try dsimp only at hSw); go_simp <;> with_reducible rfl)
      simp only [Act.put, List.setIfInBounds_toArray, List.set_cons_zero, List.set_cons_succ]
      refine wpAnyH_take (i := 2) (oi := { dst := some 52, op := Go.Op.fieldAddr 39 (Go.Operand.tmp 51) 1, type := 0, pos := "rows.go:223", after := #[{ on := 1, ground := Go.Ground.data }], guard := none }) (v := ?_) rfl (by kernel_rfl) (by kernel_rfl) (by kernel_rfl) (fun _ _ _ h => h) (Or.inl ⟨by rfl, ?_⟩) hHeld ?_
      rotate_left 1
      · (intro w hSw; (try dsimp only at hSw); go_simp <;> with_reducible rfl)
      simp only [Act.put, List.setIfInBounds_toArray, List.set_cons_zero, List.set_cons_succ]
      refine wpAnyH_take (i := 3) (oi := { dst := some 53, op := Go.Op.load 37 (Go.Operand.tmp 52), type := 37, pos := "rows.go:223", after := #[{ on := 2, ground := Go.Ground.data }], guard := none }) (v := ?_) rfl (by kernel_rfl) (by kernel_rfl) (by kernel_rfl) (fun _ _ _ h => h) (Or.inl ⟨by rfl, ?_⟩) hHeld ?_
      rotate_left 1
      · (intro w hSw; (try dsimp only at hSw); go_simp <;> with_reducible rfl)
      simp only [Act.put, List.setIfInBounds_toArray, List.set_cons_zero, List.set_cons_succ]
      refine wpAnyH_take (i := 4) (oi := { dst := some 54, op := Go.Op.move (Go.Operand.tmp 6), type := 3, pos := "rows.go:223", after := #[], guard := none }) (v := ?_) rfl (by kernel_rfl) (by kernel_rfl) (by kernel_rfl) (fun _ _ _ h => h) (Or.inl ⟨by rfl, ?_⟩) hHeld ?_
      rotate_left 1
      · (intro w hSw; (try dsimp only at hSw); go_simp <;> with_reducible rfl)
      simp only [Act.put, List.setIfInBounds_toArray, List.set_cons_zero, List.set_cons_succ]
      refine wpAnyH_take (i := 5) (oi := { dst := some 55, op := Go.Op.move (Go.Operand.tmp 0), type := 50, pos := "rows.go:223", after := #[], guard := none }) (v := ?_) rfl (by kernel_rfl) (by kernel_rfl) (by kernel_rfl) (fun _ _ _ h => h) (Or.inl ⟨by rfl, ?_⟩) hHeld ?_
      rotate_left 1
      · (intro w hSw; (try dsimp only at hSw); go_simp <;> with_reducible rfl)
      simp only [Act.put, List.setIfInBounds_toArray, List.set_cons_zero, List.set_cons_succ]
      refine wpAnyH_ready (rs := [6]) (by kernel_rfl) (by simp) ?_
      refine AllReadyH.cons (o := { dst := some 56, op := Go.Op.call { callee := Go.Callee.value (Go.Operand.func 73), args := #[Go.Operand.tmp 55, Go.Operand.const (Go.Value.int Go.IntKind.i64 4096)], argTypes := #[50, 3] }, type := 9, pos := "rows.go:223", after := #[{ on := 5, ground := Go.Ground.data }], guard := none }) rfl (fun K hK => ?_) AllReadyH.nil
      go_simp
      refine (TC.out wr.drew (HS.out.2.1.keep rfl rfl)).mono ?_
      rintro x w1 ⟨rfl, st1, kb0⟩
      have kb1 : KB g wr w1 := KB.trans (KB.of_below (belN1 wr)) kb0
      obtain ⟨cap, w2, hcv, hv2, hb12⟩ := conv_hb y w1 (by have := HY.out; omega)
      have rB1 : Bk w1 B csB 39 := (kb1.2.2.2.2 B HS.out.2.2.1.lt HN.out.1).trans HS.out.2.2.1
      have c1a := (rB1.cell (o + 1)).trans HCB.out
      have rB2 := rB1.below hb12
      have c1b := (rB2.cell (o + 1)).trans HCB.out
      have hGne : G ≠ g := fun e => by have := HN.out; omega
      have rG1 : Bk w1 G es 26 := (kb1.2.2.2.2 G HS.out.1.row.lt hGne).trans HS.out.1.row
      have rG2 := rG1.below hb12
      have cz := (rG2.cell j).trans (Array.getElem?_eq_getElem (show j < es.size by have := HS.out.2.2.2.1; omega))
      have fz := rG2.frozen j
      clear hHeld
      refine hK.out _ _ (c1a) (fun hHeld => ?_)
      clear hK K
      refine wpAnyH_ready (rs := [7]) (by kernel_rfl) (by simp) ?_
      refine AllReadyH.cons (o := { dst := some 57, op := Go.Op.convert 9 26 (Go.Operand.tmp 56), type := 26, pos := "rows.go:223", after := #[{ on := 6, ground := Go.Ground.data }], guard := none }) rfl (fun K hK => ?_) AllReadyH.nil
      go_simp
      clear hHeld
      refine hK.out _ _ (c1b) (fun hHeld => ?_)
      clear hK K
      refine wpAnyH_take (i := 8) (oi := { dst := some 58, op := Go.Op.indexAddr 37 (Go.Operand.tmp 53) (Go.Operand.tmp 54), type := 0, pos := "rows.go:223", after := #[{ on := 3, ground := Go.Ground.data }, { on := 4, ground := Go.Ground.data }, { on := 0, ground := Go.Ground.phase }, { on := 1, ground := Go.Ground.phase }, { on := 2, ground := Go.Ground.phase }, { on := 3, ground := Go.Ground.phase }, { on := 4, ground := Go.Ground.phase }, { on := 5, ground := Go.Ground.phase }, { on := 6, ground := Go.Ground.phase }, { on := 7, ground := Go.Ground.phase }], guard := none }) (v := ?_) rfl (by kernel_rfl) (by kernel_rfl) (by kernel_rfl) (fun _ _ _ h => h) (Or.inl ⟨by rfl, ?_⟩) hHeld ?_
      rotate_left 1
      · (intro w hSw; (try dsimp only at hSw); go_simp <;> with_reducible rfl)
      simp only [Act.put, List.setIfInBounds_toArray, List.set_cons_zero, List.set_cons_succ]
      refine wpAnyH_ready (rs := [9]) (by kernel_rfl) (by simp) ?_
      refine AllReadyH.cons (o := { dst := none, op := Go.Op.store 26 (Go.Operand.tmp 58) (Go.Operand.tmp 57), type := 0, pos := "rows.go:223", after := #[{ on := 8, ground := Go.Ground.data }, { on := 7, ground := Go.Ground.data }, { on := 6, ground := Go.Ground.chain }, { on := 0, ground := Go.Ground.phase }, { on := 1, ground := Go.Ground.phase }, { on := 2, ground := Go.Ground.phase }, { on := 3, ground := Go.Ground.phase }, { on := 4, ground := Go.Ground.phase }, { on := 5, ground := Go.Ground.phase }, { on := 6, ground := Go.Ground.phase }, { on := 7, ground := Go.Ground.phase }], guard := none }) rfl (fun K hK => ?_) AllReadyH.nil
      go_simp
      have hGB : B ≠ G := fun e => by have := HN.out; omega
      clear hHeld
      refine hK.out _ _ ((World.cell?_of_block (Below.heap_setCell _ _ _ _ hGB)).trans c1b) (fun hHeld => ?_)
      clear hK K
      refine wpAnyH_done (by kernel_rfl) ?_ _
      have K12 : KB g wr w2 := kb1.trans (KB.of_below hb12)
      have hsz12 : wr.heap.size ≤ w1.heap.size := kb1.2.2.2.1
      have hsz2 : w1.heap.size ≤ w2.heap.size := hb12.size
      have st2 : St w2 g h q.2.1 q.2.2 := st1.keep (hb12.block g st1.lt) (hb12.block h (by have := HN.out; have := HS.out.2.2.2.2.2; omega))
      have HF : Hid (LpE g h B G q0 n (j + 1) csB (w2.setCell ⟨G, j, none⟩ (.slice (some ⟨w1.heap.size, 0, none⟩) y.length cap)) (es.setIfInBounds j (.slice (some ⟨w1.heap.size, 0, none⟩) y.length cap)) (rdL (sText 4096) (j + 1) l2 e2)) := by
        rw [HQ.out]
        refine ⟨HS.out.1.step (ys := [.slice (some ⟨w1.heap.size, 0, none⟩) y.length cap]) (rG2.set j _) (fun i hi => ?_) (fun q hq hl => ?_) (fun r z hz => ?_) ?_, st2.put hGne (fun e => by have := HN.out; omega), (rB2.set' hGB.symm), by simp only [Array.size_setIfInBounds]; exact HS.out.2.2.2.1, by rw [List.length_append, HS.out.2.2.2.2.1]; rfl, by simp only [World.setCell, Array.size_modify]; have := HS.out.2.2.2.2.2; omega⟩
        · exact Array.getElem?_setIfInBounds_ne (by rw [HS.out.2.2.2.2.1] at hi; simp only [evE, Nat.mul_one] at hi; omega)
        · exact (Below.heap_setCell _ _ _ _ (fun e => by have := HN.out; have e2 : q = G := e; omega)).trans (K12.2.2.2.2 q hl (fun e => by have := HN.out; omega))
        · match r, hz with
          | 0, hz =>
            cases hz
            rw [HS.out.2.2.2.2.1]
            show (es.setIfInBounds j _)[j * 1 + 0]? = _
            rw [Nat.mul_one, Nat.add_zero, Array.getElem?_setIfInBounds_self_of_lt (by have := HS.out.2.2.2.1; omega)]
          | r + 1, hz => simp at hz
        · refine ⟨_, rfl, hv2.keep fun q hq _ => ⟨Below.heap_setCell _ _ _ _ (fun e => by have := HN.out; have := HS.out.1.row.lt; have e2 : q = G := e; omega), by have := HN.out; have := HS.out.2.2.2.2.2; omega⟩⟩
      have HK : Hid (K2 g B w (w2.setCell ⟨G, j, none⟩ (.slice (some ⟨w1.heap.size, 0, none⟩) y.length cap))) := by
        have k1 : K2 g B w w2 := HKK.out.trans (K2.of_kb K12)
        exact ⟨k1.1, k1.2.1, k1.2.2.1, by simpa [World.setCell] using k1.2.2.2.1, fun q hq h1 h2 => (Below.heap_setCell _ _ _ _ (fun e => by have := HN.out; have e2 : q = G := e; omega)).trans (k1.2.2.2.2 q hq h1 h2)⟩
      clear rG1 rG2 rB1 rB2 cz fz c1a c1b kb0 kb1 K12 st1 st2 hv2 hb12 hGB hGne hsz12 hsz2 hcv
      go_wp2_with fail
      exact ⟨⟨j + 1, _, hlt, by first | rfl | rw [HW.out], HF, HK⟩, meas hlt (by first | rfl | exact HW.out)⟩
    · obtain rfl : j = n := by omega
      go_wp2_with fail
      first | go_end0 | refine bodyPost_ret (results_none rfl _ _ _) rfl ?_
      refine ⟨rfl, .slice (some ⟨G, 0, none⟩) j j, ?_, HS.out.1.sl (rdL_len _ _ _ _) (by have := HN.out; omega) (fun q hq => by have := HN.out; omega) HN.out.2.2.2.2.2.2.1, HS.out.2.1, HKK.out⟩
      have := HS.out.2.2.1
      rw [HCS.out] at this
      exact this
end Go.Proofs.YtkaaddahegkmgaaGreat
