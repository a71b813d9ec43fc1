/- The contracts of putWord, word, four, number, Size, bytes.Equal. -/
import Derived.Test.YthakbkkopneilaaDoorF
namespace Go.Proofs.YthakbkkopneilaaDoor
open Go.ChangeShapes Go.WideShapes Go.ChangeAt Go.RowKit
/-- A number's four bytes, the highest first. -/
def be4 (n : Nat) : List UInt8 := [UInt8.ofNat (n / 16777216), UInt8.ofNat (n / 65536), UInt8.ofNat (n / 256), UInt8.ofNat n]
/-- The number of the first four bytes. -/
def num4 : List UInt8 → Nat
  | b0 :: b1 :: b2 :: b3 :: _ => ((b0.toNat * 256 + b1.toNat) * 256 + b2.toNat) * 256 + b3.toNat
  | _ => 0
theorem four_of {l : List UInt8} (h : 4 ≤ l.length) : ∃ b0 b1 b2 b3 t, l = b0 :: b1 :: b2 :: b3 :: t := by
  match l, h with
  | b0 :: b1 :: b2 :: b3 :: t, _ => exact ⟨b0, b1, b2, b3, t, rfl⟩
theorem num4_lt (l : List UInt8) : num4 l < 4294967296 := by
  unfold num4
  split
  · rename_i b0 b1 b2 b3 _
    have := b0.toNat_lt; have := b1.toNat_lt; have := b2.toNat_lt; have := b3.toNat_lt
    omega
  · omega
theorem orN (a b : Nat) (ha : a < 4294967296) (hb : b < 4294967296) : bits BinOp.or IntKind.u32 (a : Int) (b : Int) = ((a ||| b : Nat) : Int) := by
  rw [u32_or _ _ (by omega) (by omega) (by omega) (by omega)]; rfl
theorem or_mul (a b k : Nat) (hb : b < 2 ^ k) : a * 2 ^ k ||| b = a * 2 ^ k + b := by
  rw [← Nat.shiftLeft_eq, Nat.shiftLeft_add_eq_or_of_lt hb]
set_option maxRecDepth 100000 in
theorem word_calls (v : Value) (l : List UInt8) (w : World) (hv : Hb w v l) (h4 : 4 ≤ l.length) :
    Calls Tryd.prog 69 #[v] w fun e w' => e = .returned (.int .u32 ((num4 l : Nat) : Int)) ∧ ∃ m, w' = w.drewN m := by
  obtain ⟨B, o, c, rfl, hc, hcell⟩ := hv.place (by omega)
  obtain ⟨b0, b1, b2, b3, t, rfl⟩ := four_of h4
  have c0 : w.cell? ⟨B, o, none⟩ = some (.int .u8 (b0.toNat : Int)) := hcell 0 b0 rfl
  have c1 : w.cell? ⟨B, o + 1, none⟩ = some (.int .u8 (b1.toNat : Int)) := hcell 1 b1 rfl
  have c2 : w.cell? ⟨B, o + 2, none⟩ = some (.int .u8 (b2.toNat : Int)) := hcell 2 b2 rfl
  have c3 : w.cell? ⟨B, o + 3, none⟩ = some (.int .u8 (b3.toNat : Int)) := hcell 3 b3 rfl
  clear hcell hv
  have k0 := b0.toNat_lt; have k1 := b1.toNat_lt; have k2 := b2.toNat_lt; have k3 := b3.toNat_lt
  generalize hn : (b0 :: b1 :: b2 :: b3 :: t).length = n at *
  clear hn
  obtain ⟨n4, hn4'⟩ : ∃ n4, n4 = num4 (b0 :: b1 :: b2 :: b3 :: t) := ⟨_, rfl⟩
  rw [← hn4']
  have hn4 : n4 = ((b0.toNat * 256 + b1.toNat) * 256 + b2.toNat) * 256 + b3.toNat := hn4'
  clear hn4'
  generalize b0.toNat = x0 at *
  generalize b1.toNat = x1 at *
  generalize b2.toNat = x2 at *
  generalize b3.toNat = x3 at *
  have e1 : bits BinOp.or IntKind.u32 ((x0 : Int) * 16777216) ((x1 : Int) * 65536) = (((x0 * 256 + x1) * 65536 : Nat) : Int) := by
    have h := orN (x0 * 2 ^ 24) (x1 * 65536) (by omega) (by omega)
    rw [or_mul x0 (x1 * 65536) 24 (by omega)] at h
    rw [show ((x0 : Int) * 16777216) = ((x0 * 2 ^ 24 : Nat) : Int) by omega, show ((x1 : Int) * 65536) = ((x1 * 65536 : Nat) : Int) by omega, h]
    omega
  have e2 : bits BinOp.or IntKind.u32 (((x0 * 256 + x1) * 65536 : Nat) : Int) ((x2 : Int) * 256) = ((((x0 * 256 + x1) * 256 + x2) * 256 : Nat) : Int) := by
    have h := orN ((x0 * 256 + x1) * 2 ^ 16) (x2 * 256) (by omega) (by omega)
    rw [or_mul _ (x2 * 256) 16 (by omega)] at h
    rw [show (((x0 * 256 + x1) * 65536 : Nat) : Int) = (((x0 * 256 + x1) * 2 ^ 16 : Nat) : Int) by omega, show ((x2 : Int) * 256) = ((x2 * 256 : Nat) : Int) by omega, h]
    omega
  have e3 : bits BinOp.or IntKind.u32 ((((x0 * 256 + x1) * 256 + x2) * 256 : Nat) : Int) (x3 : Int) = (n4 : Int) := by
    have h := orN (((x0 * 256 + x1) * 256 + x2) * 2 ^ 8) x3 (by omega) (by omega)
    rw [or_mul _ x3 8 (by omega)] at h
    rw [show ((((x0 * 256 + x1) * 256 + x2) * 256 : Nat) : Int) = ((((x0 * 256 + x1) * 256 + x2) * 2 ^ 8 : Nat) : Int) by omega, h, hn4]
  clear hn4
  generalize (x0 * 256 + x1) * 65536 = y1 at e1 e2
  generalize ((x0 * 256 + x1) * 256 + x2) * 256 = y2 at e2 e3
  go_enter Tryd.func69, Tryd.ntmps69
  go_wp2
  go_quiet (fail)
  go_wp2
  go_ret
  refine ⟨?_, nq, rfl⟩
  first | rfl | (rw [e1, e2, e3]; rfl) | (simp only [e1, e2, e3]; rfl)
set_option maxRecDepth 100000 in
theorem number_calls (v : Value) (l : List UInt8) (w : World) (hv : Hb w v l) (h4 : 4 ≤ l.length) :
    Calls Tryd.prog 58 #[v] w fun e w' => e = .returned (.int .i64 ((num4 l : Nat) : Int)) ∧ ∃ m, w' = w.drewN m := by
  obtain ⟨B, o, c, rfl, hc, hcell⟩ := hv.place (by omega)
  obtain ⟨b0, b1, b2, b3, t, rfl⟩ := four_of h4
  have c0 : w.cell? ⟨B, o, none⟩ = some (.int .u8 (b0.toNat : Int)) := hcell 0 b0 rfl
  have c1 : w.cell? ⟨B, o + 1, none⟩ = some (.int .u8 (b1.toNat : Int)) := hcell 1 b1 rfl
  have c2 : w.cell? ⟨B, o + 2, none⟩ = some (.int .u8 (b2.toNat : Int)) := hcell 2 b2 rfl
  have c3 : w.cell? ⟨B, o + 3, none⟩ = some (.int .u8 (b3.toNat : Int)) := hcell 3 b3 rfl
  clear hcell hv
  have k0 := b0.toNat_lt; have k1 := b1.toNat_lt; have k2 := b2.toNat_lt; have k3 := b3.toNat_lt
  generalize hn : (b0 :: b1 :: b2 :: b3 :: t).length = n at *
  clear hn
  obtain ⟨n4, hn4'⟩ : ∃ n4, n4 = num4 (b0 :: b1 :: b2 :: b3 :: t) := ⟨_, rfl⟩
  rw [← hn4']
  have hn4 : n4 = ((b0.toNat * 256 + b1.toNat) * 256 + b2.toNat) * 256 + b3.toNat := hn4'
  clear hn4'
  generalize b0.toNat = x0 at *
  generalize b1.toNat = x1 at *
  generalize b2.toNat = x2 at *
  generalize b3.toNat = x3 at *
  have HN : Hid ((((x0 : Int) * 256 + x1) * 256 + x2) * 256 + x3 = (n4 : Int)) := by show _ = _; rw [hn4]; omega
  clear hn4
  go_enter Tryd.func58, Tryd.ntmps58
  go_wp2
  go_quiet (fail)
  go_wp2
  go_ret
  exact ⟨by rw [← HN.out]; rfl, nq, rfl⟩
theorem be4_cells (x : Nat) (hx : x < 4294967296) : bval (be4 x) = [.int .u8 ((x : Int) / 16777216), .int .u8 ((x : Int) / 65536 % 256), .int .u8 ((x : Int) / 256 % 256), .int .u8 ((x : Int) % 256)] := by
  simp only [bval, be4, List.map_cons, List.map_nil, UInt8.toNat_ofNat']
  have a0 : ((x / 16777216 % 2 ^ 8 : Nat) : Int) = (x : Int) / 16777216 := by omega
  have a1 : ((x / 65536 % 2 ^ 8 : Nat) : Int) = (x : Int) / 65536 % 256 := by omega
  have a2 : ((x / 256 % 2 ^ 8 : Nat) : Int) = (x : Int) / 256 % 256 := by omega
  have a3 : ((x % 2 ^ 8 : Nat) : Int) = (x : Int) % 256 := by omega
  rw [a0, a1, a2, a3]
theorem four_calls (x : Nat) (hx : x < 4294967296) (w : World) :
    Calls Tryd.prog 49 #[.int .u32 (x : Int)] w fun e w' => e = .returned (.slice (some ⟨w.heap.size, 0, none⟩) 4 4) ∧ w' = w.alloc (.cells (bval (be4 x)).toArray 5) := by
  have HB := be4_cells x hx
  have HB' : Hid (bval (be4 x) = _) := HB
  clear HB
  go_enter Tryd.func49, Tryd.ntmps49
  go_wp2
  go_ret
  exact ⟨rfl, by rw [HB'.out]⟩
theorem set_four {α : Type} (a b c d : α) : ∀ (o : Nat) (xs : List α), o + 4 ≤ xs.length → (((xs.set o a).set (o + 1) b).set (o + 2) c).set (o + 3) d = xs.take o ++ ([a, b, c, d] ++ xs.drop (o + 4))
  | 0, _ :: _ :: _ :: _ :: _, _ => rfl
  | 0, [], h => by simp at h
  | 0, [_], h => by simp at h
  | 0, [_, _], h => by simp at h
  | 0, [_, _, _], h => by simp at h
  | o + 1, [], h => by simp at h
  | o + 1, x :: xs, h => by
    have ih := set_four a b c d o xs (by simp at h; omega)
    simp only [List.set_cons_succ, List.take_succ_cons, List.drop_succ_cons, List.cons_append] at ih ⊢
    rw [← ih]
set_option maxHeartbeats 2000000 in
theorem putWord_calls (B : Nat) (w : World) (g o m c N cap : Nat) (l : List UInt8) (x : Nat) (hx : x < 4294967296) (ho : Own B w (.slice (some ⟨g, 0, none⟩) N cap) l) (hN : N = l.length) (hm : 4 ≤ m) (hom : o + 4 ≤ N) :
    Calls Tryd.prog 45 #[.slice (some ⟨g, o, none⟩) m c, .int .u32 (x : Int)] w fun e w' => e = .returned (.tuple #[]) ∧ Own B w' (.slice (some ⟨g, 0, none⟩) N cap) (l.take o ++ (be4 x ++ l.drop (o + 4))) ∧ Below B w w' := by
  subst hN
  have HO : Hid (Own B w (.slice (some ⟨g, 0, none⟩) l.length cap) l) := ho
  have HOM : Hid (o + 4 ≤ l.length) := hom
  have cell : ∀ j, o ≤ j → j < o + 4 → ∃ v, w.cell? ⟨g, j, none⟩ = some v := fun j _ hj => ⟨_, (World.ownsRow.cellAt ho j (by omega)).trans (List.getElem?_eq_getElem (by rw [bval_length]; omega))⟩
  obtain ⟨v0, h0⟩ := cell o (by omega) (by omega)
  obtain ⟨v1, h1⟩ := cell (o + 1) (by omega) (by omega)
  obtain ⟨v2, h2⟩ := cell (o + 2) (by omega) (by omega)
  obtain ⟨v3, h3⟩ := cell (o + 3) (by omega) (by omega)
  have f0 : ∀ j, w.frozen? ⟨g, j, none⟩ = false := fun j => World.ownsRow.frozenAt ho j
  have g0 := f0 o
  have g1 := f0 (o + 1)
  have g2 := f0 (o + 2)
  have g3 := f0 (o + 3)
  have HX : Hid (x < 4294967296) := hx
  clear f0 cell ho hom
  generalize hL : l.length = L at *
  have HB4 : Hid (bval (be4 x) = _) := be4_cells x hx
  go_enter Tryd.func45, Tryd.ntmps45
  go_wp2
  go_end0
  subst hL
  have k0 := World.ownsRow.stored HO.out o (.int .u8 ((x : Int) / 16777216))
  have k1 := World.ownsRow.stored k0.1 (o + 1) (.int .u8 ((x : Int) / 65536 % 256))
  have k2 := World.ownsRow.stored k1.1 (o + 2) (.int .u8 ((x : Int) / 256 % 256))
  have k3 := World.ownsRow.stored k2.1 (o + 3) (.int .u8 ((x : Int) % 256))
  have e : bval (l.take o ++ (be4 x ++ l.drop (o + 4))) = ((((bval l).set o (.int .u8 ((x : Int) / 16777216))).set (o + 1) (.int .u8 ((x : Int) / 65536 % 256))).set (o + 2) (.int .u8 ((x : Int) / 256 % 256))).set (o + 3) (.int .u8 ((x : Int) % 256)) := by
    rw [set_four _ _ _ _ o (bval l) (by rw [bval_length]; exact HOM.out), bval_append, bval_append, HB4.out]
    simp [bval]
  have hlt := World.ownsRow.lt HO.out g rfl
  have hlen : (l.take o ++ (be4 x ++ l.drop (o + 4))).length = l.length := by have := HOM.out; simp [be4]; omega
  refine ⟨rfl, ?_, ?_⟩
  · unfold Own
    rw [e, hlen]
    exact k3.1
  · exact ((((Below.refl _ _).setCell (p := ⟨g, _, none⟩) hlt.1 _).setCell (p := ⟨g, _, none⟩) hlt.1 _).setCell (p := ⟨g, _, none⟩) hlt.1 _).setCell (p := ⟨g, _, none⟩) hlt.1 _
theorem size_calls (n : Int) (w : World) : Calls Tryd.prog 44 #[.int .i64 n] w fun e w' => e = .returned (.int .i64 (if n < 0 ∨ 1048576 < n then 0 else 9 + n)) ∧ w' = w := by
  by_cases h : n < 0
  · rw [if_pos (.inl h)]
    have d : decide (n < 0) = true := decide_eq_true h
    go_enter Tryd.func44, Tryd.ntmps44
    go_wp2
    go_ret
    exact ⟨rfl, rfl⟩
  · have d : decide (n < 0) = false := decide_eq_false h
    by_cases h2 : 1048576 < n
    · rw [if_pos (.inr h2)]
      have d2 : decide (1048576 < n) = true := decide_eq_true h2
      go_enter Tryd.func44, Tryd.ntmps44
      go_wp2
      go_ret
      exact ⟨rfl, rfl⟩
    · rw [if_neg (by omega)]
      have d2 : decide (1048576 < n) = false := decide_eq_false h2
      have hw : wrap64 (9 + n) = 9 + n := by unfold wrap64; omega
      go_enter Tryd.func44, Tryd.ntmps44
      go_wp2
      go_ret
      exact ⟨by first | rfl | (rw [hw]), rfl⟩
theorem conv_string (w : World) (p : Option Addr) (c : Nat) (l : List UInt8) (h : Lib.HoldsBytes w (.slice p l.length c) l) : (convert 22 9 (.slice p l.length c)).run Tryd.prog w = .ok (.string (strOfNums (Lib.numsL l))) w := by
  obtain ⟨p', c', e, h1, h2⟩ := h
  cases e
  have hb : Lib.BytesIn w p l.length (Lib.numsL l) := by
    cases p with
    | none =>
      have : l = [] := h1 rfl
      subst this
      exact Lib.BytesIn.nil w none _
    | some a =>
      refine Lib.BytesIn.of_cells (fun i hi => ?_)
      have := h2 a rfl i l[i] (List.getElem?_eq_getElem hi)
      rw [this]
      simp [Lib.numsL, List.getD, List.getElem?_eq_getElem hi]
  exact hb.convert (P := Tryd.prog) (Lib.numsL_length l) c 22 5 9 Tryd.underlying22 Tryd.underlying5 Tryd.underlying9
theorem equal_calls (v1 v2 : Value) (l1 l2 : List UInt8) (w : World) (h1 : Lib.HoldsBytes w v1 l1) (h2 : Lib.HoldsBytes w v2 l2) :
    Calls Tryd.prog 7 #[v1, v2] w fun e w' => e = .returned (.bool (l1 == l2)) ∧ w' = w := by
  obtain ⟨p1, c1, rfl, a1, b1⟩ := h1
  obtain ⟨p2, c2, rfl, a2, b2⟩ := h2
  have e1 := conv_string w p1 c1 l1 ⟨p1, c1, rfl, a1, b1⟩
  have e2 := conv_string w p2 c2 l2 ⟨p2, c2, rfl, a2, b2⟩
  clear a1 b1 a2 b2
  have t1 : (strOfNums (Lib.numsL l1)).toList = l1 := by rw [Lib.strOfNums_toList, Lib.bytesOf_numsL]
  have t2 : (strOfNums (Lib.numsL l2)).toList = l2 := by rw [Lib.strOfNums_toList, Lib.bytesOf_numsL]
  go_enter Tryd.func7, Tryd.ntmps7
  go_wp2
  go_ret
  exact ⟨rfl, rfl⟩
end Go.Proofs.YthakbkkopneilaaDoor
