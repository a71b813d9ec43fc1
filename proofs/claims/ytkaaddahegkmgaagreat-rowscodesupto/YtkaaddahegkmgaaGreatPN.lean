/- The contracts of pack's reader: word and number. -/
import Derived.Test.YtkaaddahegkmgaaGreatPK
import Derived.Test.YtkaaddahegkmgaaGreatPS
namespace Go.Proofs.YtkaaddahegkmgaaGreat
open Go.ChangeShapes Go.WideShapes Go.ChangeAt Go.RowKit
/-- The number whose bytes these are, the highest first. -/
def valB (l : List UInt8) : Nat := l.foldl (fun a b => a * 256 + b.toNat) 0
theorem valB_snoc (l : List UInt8) (b : UInt8) : valB (l ++ [b]) = valB l * 256 + b.toNat := by simp [valB]
theorem valB_lt (l : List UInt8) : valB l < 256 ^ l.length := by
  have h : ∀ (l : List UInt8) (a n : Nat), a < 256 ^ n → l.foldl (fun a b => a * 256 + b.toNat) a < 256 ^ (n + l.length) := by
    intro l
    induction l with
    | nil => intro a n h; simpa using h
    | cons b r ih =>
      intro a n h
      have hb := b.toNat_lt
      have := ih (a * 256 + b.toNat) (n + 1) (by rw [Nat.pow_succ]; omega)
      rw [List.foldl_cons, List.length_cons, show n + (r.length + 1) = n + 1 + r.length by omega]
      exact this
  have := h l 0 0 (by simp)
  simpa [valB] using this
theorem valB_take (l : List UInt8) (j : Nat) (b : UInt8) (h : l[j]? = some b) : valB (l.take (j + 1)) = valB (l.take j) * 256 + b.toNat := by
  rw [List.take_add_one, h]
  exact valB_snoc _ _
theorem or_byte (x b : Nat) (hx : x < 256 ^ 7) (hb : b < 256) : bits BinOp.or IntKind.u64 (IntKind.u64.wrap ((x : Int) * 256)) (IntKind.u64.wrap (b : Int)) = ((x * 256 + b : Nat) : Int) := by
  have hx' : x < 72057594037927936 := by simpa using hx
  have e1 : IntKind.u64.wrap ((x : Int) * 256) = ((x * 256 : Nat) : Int) := by rw [IntKind.wrap_u64]; omega
  have e2 : IntKind.u64.wrap (b : Int) = (b : Int) := by rw [IntKind.wrap_u64]; omega
  rw [e1, e2, u64_or _ _ (by omega) (by omega) (by omega) (by omega), Int.toNat_natCast, Int.toNat_natCast]
  have := Nat.shiftLeft_add_eq_or_of_lt (i := 8) hb x
  rw [Nat.shiftLeft_eq] at this
  exact congrArg _ this.symm
theorem word_live (w : World) (g h c : Nat) (p : Option Addr) (l : List UInt8) (k : Nat) (hk1 : 1 ≤ k) (hk : k ≤ 8) (hn : k ≤ l.length) (r : Rd w g h p c l) :
    Calls Tryz.prog 100 #[.pointer (some ⟨g, 0, none⟩), .int .i64 (k : Int)] w fun e w' => e = .returned (.tuple #[.int .u64 (valB (l.take k) : Nat), .bool true]) ∧ St w' g h (l.drop k) 0 ∧ KB g w w' := by
  have TL : Hid (Calls _ _ _ _ _) := take_live w g h c p l k hn r
  clear r
  go_enter Tryz.func100, Tryz.ntmps100
  go_wp2_with fail
  refine Calls.mono TL.out ?_
  rintro e w1 ⟨q, rfl, h1, h2, h3⟩
  have H1 : Hid (St _ _ _ _ _) := h1
  have H3 : Hid (KB _ _ _) := h3
  have hlt : (l.take k).length = k := by rw [List.length_take]; omega
  obtain ⟨o, rfl, hc⟩ := h2 (by intro e; rw [e] at hlt; simp at hlt; omega)
  have HC : Hid (∀ (i : Nat) x, (l.take k)[i]? = some x → w1.cell? ⟨h, o + i, none⟩ = some (.int .u8 (x.toNat : Int))) := hc
  clear h1 h2 h3 hc
  go_wp2
  go_loop [8, 21] (fun x i => ∃ j : Nat, j ≤ k ∧ i = .int .i64 j ∧ x = .int .u64 ((valB ((l.take k).take j) : Nat) : Int)) (fun _ i => k - (intOf i).toNat)
  case atStart => exact ⟨0, Nat.zero_le _, rfl, rfl⟩
  case round =>
    obtain ⟨j, hj, rfl, rfl⟩ := hrel
    by_cases hjk : j < k
    · have hjl : j < (l.take k).length := by omega
      have hx : (l.take k)[j]? = some (l.take k)[j] := List.getElem?_eq_getElem hjl
      generalize (l.take k)[j] = b at hx
      have hcell := HC.out j b hx
      have HB : Hid (bits BinOp.or IntKind.u64 (IntKind.u64.wrap ((valB ((l.take k).take j) : Nat) * 256 : Int)) (IntKind.u64.wrap (b.toNat : Int)) = ((valB ((l.take k).take (j + 1)) : Nat) : Int)) := by
        show _ = _
        rw [valB_take _ _ _ hx]
        refine or_byte _ _ ?_ b.toNat_lt
        refine Nat.lt_of_lt_of_le (valB_lt _) (Nat.pow_le_pow_right (by decide) ?_)
        rw [List.length_take]; omega
      go_wp2
      go_round
      case rel => exact ⟨j + 1, by omega, by go_num, by rw [HB.out]⟩
      case measure => simp [intOf]; omega
    · obtain rfl : j = k := by omega
      have he : (l.take j).take j = l.take j := by rw [List.take_take]; simp
      rw [he]
      go_wp2
      go_ret2
      exact ⟨rfl, H1.out, H3.out⟩
theorem word_short (w : World) (g h c : Nat) (p : Option Addr) (l : List UInt8) (k : Nat) (_hk : k ≤ 8) (hn : l.length < k) (r : Rd w g h p c l) :
    Calls Tryz.prog 100 #[.pointer (some ⟨g, 0, none⟩), .int .i64 (k : Int)] w fun e w' => e = .returned (.tuple #[.int .u64 0, .bool false]) ∧ St w' g h [] 4 ∧ KB g w w' := by
  have TL : Hid (Calls _ _ _ _ _) := take_short w g h c p l k hn r
  clear r
  go_enter Tryz.func100, Tryz.ntmps100
  go_wp2_with fail
  refine Calls.mono TL.out ?_
  rintro e w1 ⟨rfl, h1, h3⟩
  have H1 : Hid (St _ _ _ _ _) := h1
  have H3 : Hid (KB _ _ _) := h3
  clear h1 h3
  go_wp2
  go_ret2
  exact ⟨rfl, H1.out, H3.out⟩
/-- What number reads: the number, what is left, the error. -/
def sNumber (l : List UInt8) : Nat × List UInt8 × Int :=
  match l with
  | [] => (0, [], 4)
  | b :: r =>
    if b.toNat < 240 then (b.toNat, r, 0) else if 247 < b.toNat then (0, [], 3) else if r.length < b.toNat - 239 then (0, [], 4) else
    if 9223372036854775807 < valB (r.take (b.toNat - 239)) ∨ (enc (valB (r.take (b.toNat - 239)))).length ≤ b.toNat - 239 then (0, [], 3) else (valB (r.take (b.toNat - 239)), r.drop (b.toNat - 239), 0)
/-- What a call of the reader at g leaves. -/
def Rs (w : World) (g h : Nat) (v : Value) (l : List UInt8) (e : Int) (x : Ending) (w' : World) : Prop := x = .returned v ∧ St w' g h l e ∧ KB g w w'
theorem number_nil (w : World) (g h c : Nat) (p : Option Addr) (r : Rd w g h p c []) : Calls Tryz.prog 71 #[.pointer (some ⟨g, 0, none⟩)] w (Rs w g h (.int .i64 0) [] 4) := by
  have TL : Hid (Calls _ _ _ _ _) := take_short w g h c p [] 1 (by simp) r
  clear r
  go_enter Tryz.func71, Tryz.ntmps71
  go_wp2_with fail
  refine Calls.mono TL.out ?_
  rintro e w1 ⟨rfl, h1, h3⟩
  have H1 : Hid (St _ _ _ _ _) := h1
  have H3 : Hid (KB _ _ _) := h3
  clear h1 h3
  go_wp2
  go_ret
  exact ⟨rfl, H1.out, H3.out⟩
theorem first_take (w : World) (g h c : Nat) (p : Option Addr) (b : UInt8) (t : List UInt8) (r : Rd w g h p c (b :: t)) :
    Calls Tryz.prog 99 #[.pointer (some ⟨g, 0, none⟩), .int .i64 1] w fun e w' => ∃ o, e = .returned (.tuple #[.slice (some ⟨h, o, none⟩) 1 1, .bool true]) ∧ St w' g h t 0 ∧ w'.cell? ⟨h, o, none⟩ = some (.int .u8 (b.toNat : Int)) ∧ KB g w w' := by
  refine (take_live w g h c p (b :: t) 1 (by simp) r).mono ?_
  rintro e w1 ⟨q, rfl, h1, h2, h3⟩
  obtain ⟨o, rfl, hc⟩ := h2 (by simp)
  exact ⟨o, rfl, by simpa using h1, by simpa using hc 0 b rfl, h3⟩
theorem number_one (w : World) (g h c : Nat) (p : Option Addr) (b : UInt8) (t : List UInt8) (hb : b.toNat < 240) (r : Rd w g h p c (b :: t)) : Calls Tryz.prog 71 #[.pointer (some ⟨g, 0, none⟩)] w (Rs w g h (.int .i64 (b.toNat : Int)) t 0) := by
  have TL : Hid (Calls _ _ _ _ _) := first_take w g h c p b t r
  clear r
  have hbz : (b.toNat : Int) < 240 := by omega
  go_enter Tryz.func71, Tryz.ntmps71
  go_wp2_with fail
  refine Calls.mono TL.out ?_
  rintro e w1 ⟨o, rfl, h1, hc, h3⟩
  have H1 : Hid (St _ _ _ _ _) := h1
  have H3 : Hid (KB _ _ _) := h3
  clear h1 h3
  go_wp2
  go_ret
  exact ⟨rfl, H1.out, H3.out⟩
theorem st_live {w : World} {g h : Nat} {l : List UInt8} (r : St w g h l 0) : ∃ p c, Rd w g h p c l := by
  rcases r with ⟨_, p, c, r⟩ | ⟨h0, _⟩
  · exact ⟨p, c, r⟩
  · simp at h0
set_option maxRecDepth 100000 in
theorem number_bad (w : World) (g h c : Nat) (p : Option Addr) (b : UInt8) (t : List UInt8) (k : Nat) (hk : b.toNat = 239 + k) (hk9 : 8 < k) (r : Rd w g h p c (b :: t)) : Calls Tryz.prog 71 #[.pointer (some ⟨g, 0, none⟩)] w (Rs w g h (.int .i64 0) [] 3) := by
  have TL : Hid (Calls _ _ _ _ _) := first_take w g h c p b t r
  clear r
  have d0 : decide ((b.toNat : Int) < 240) = false := decide_eq_false (by omega)
  have hkz : (b.toNat : Int) - 239 = (k : Int) := by omega
  have hbu : (b.toNat : Int) ≤ 255 := by have := b.toNat_lt; omega
  clear hk
  go_enter Tryz.func71, Tryz.ntmps71
  go_wp2_with fail
  refine Calls.mono TL.out ?_
  rintro e w1 ⟨o, rfl, h1, hc, h3⟩
  obtain ⟨p1, c1, r1⟩ := st_live h1
  have H3 : Hid (KB g w w1) := h3
  have R1 : Hid (Rd w1 g h p1 c1 t) := r1
  clear h1 h3 r1
  have k8 : (8 : Int) < (k : Int) := by omega
  go_wp2_with fail
  refine (fail_live w1 g h c1 p1 t 3 rfl R1.out).mono ?_
  rintro e w2 ⟨rfl, h1, h3⟩
  have H4 : Hid (St _ _ _ _ _) := h1
  have H5 : Hid (KB _ _ _) := h3
  clear h1 h3
  go_wp2
  go_ret
  exact ⟨rfl, H4.out, H3.out.trans H5.out⟩
set_option maxRecDepth 100000 in
theorem number_short (w : World) (g h c : Nat) (p : Option Addr) (b : UInt8) (t : List UInt8) (k : Nat) (hk : b.toNat = 239 + k) (hk1 : 1 ≤ k) (hk8 : k ≤ 8) (hn : t.length < k) (r : Rd w g h p c (b :: t)) : Calls Tryz.prog 71 #[.pointer (some ⟨g, 0, none⟩)] w (Rs w g h (.int .i64 0) [] 4) := by
  have TL : Hid (Calls _ _ _ _ _) := first_take w g h c p b t r
  clear r
  have d0 : decide ((b.toNat : Int) < 240) = false := decide_eq_false (by omega)
  have hkz : (b.toNat : Int) - 239 = (k : Int) := by omega
  have hbu : (b.toNat : Int) ≤ 255 := by have := b.toNat_lt; omega
  clear hk
  go_enter Tryz.func71, Tryz.ntmps71
  go_wp2_with fail
  refine Calls.mono TL.out ?_
  rintro e w1 ⟨o, rfl, h1, hc, h3⟩
  obtain ⟨p1, c1, r1⟩ := st_live h1
  have H3 : Hid (KB g w w1) := h3
  have R1 : Hid (Rd w1 g h p1 c1 t) := r1
  clear h1 h3 r1
  have k8 : ¬ ((8 : Int) < (k : Int)) := by omega
  go_wp2_with fail
  refine (word_short w1 g h c1 p1 t k hk8 hn R1.out).mono ?_
  rintro e w2 ⟨rfl, h1, h3⟩
  have H4 : Hid (St _ _ _ _ _) := h1
  have H5 : Hid (KB _ _ _) := h3
  clear h1 h3
  go_wp2
  go_ret
  exact ⟨rfl, H4.out, H3.out.trans H5.out⟩
set_option maxRecDepth 100000 in
theorem number_over (w : World) (g h c : Nat) (p : Option Addr) (b : UInt8) (t : List UInt8) (k : Nat) (hk : b.toNat = 239 + k) (hk1 : 1 ≤ k) (hk8 : k ≤ 8) (hn : k ≤ t.length) (x : Nat) (hx : valB (t.take k) = x) (ho : 9223372036854775807 < x) (r : Rd w g h p c (b :: t)) : Calls Tryz.prog 71 #[.pointer (some ⟨g, 0, none⟩)] w (Rs w g h (.int .i64 0) [] 3) := by
  have TL : Hid (Calls _ _ _ _ _) := first_take w g h c p b t r
  clear r
  have d0 : decide ((b.toNat : Int) < 240) = false := decide_eq_false (by omega)
  have hkz : (b.toNat : Int) - 239 = (k : Int) := by omega
  have hbu : (b.toNat : Int) ≤ 255 := by have := b.toNat_lt; omega
  clear hk
  have HX : Hid (valB (t.take k) = x) := hx
  have d1 : decide ((9223372036854775807 : Int) < (x : Int)) = true := decide_eq_true (by omega)
  clear hx ho
  go_enter Tryz.func71, Tryz.ntmps71
  go_wp2_with fail
  refine Calls.mono TL.out ?_
  rintro e w1 ⟨o, rfl, h1, hc, h3⟩
  obtain ⟨p1, c1, r1⟩ := st_live h1
  have H3 : Hid (KB g w w1) := h3
  have R1 : Hid (Rd w1 g h p1 c1 t) := r1
  clear h1 h3 r1
  have k8 : ¬ ((8 : Int) < (k : Int)) := by omega
  go_wp2_with fail
  refine (word_live w1 g h c1 p1 t k hk1 hk8 hn R1.out).mono ?_
  rintro e w2 ⟨rfl, h1, h3⟩
  rw [HX.out]
  obtain ⟨p2, c2, r2⟩ := st_live h1
  have R2 : Hid (Rd w2 g h p2 c2 (t.drop k)) := r2
  have S2 : Hid (St w2 g h (t.drop k) 0) := h1
  have H6 : Hid (KB g w1 w2) := h3
  clear h1 h3 r2 hc
  go_wp2_with fail
  refine (fail_live w2 g h c2 p2 (t.drop k) 3 rfl R2.out).mono ?_
  rintro e w3 ⟨rfl, h1, h3⟩
  have H4 : Hid (St _ _ _ _ _) := h1
  have H5 : Hid (KB _ _ _) := h3
  clear h1 h3
  go_wp2
  go_ret
  exact ⟨rfl, H4.out, (H3.out.trans H6.out).trans H5.out⟩
theorem rd_below {w w' : World} {g h c : Nat} {p : Option Addr} {l : List UInt8} (r : Rd w g h p c l) (hb : Below w.heap.size w w') : Rd w' g h p c l := by
  obtain ⟨a0, a1, a2, f1, f2, hl, hg, hh⟩ := r
  have hlt := World.block_lt_of_cell? w _ a0
  refine ⟨(hb.cell (p := ⟨g, 0, none⟩) hlt).trans a0, (hb.cell (p := ⟨g, 1, none⟩) hlt).trans a1, (hb.cell (p := ⟨g, 2, none⟩) hlt).trans a2, (hb.frozen (p := ⟨g, 1, none⟩) hlt).trans f1, (hb.frozen (p := ⟨g, 2, none⟩) hlt).trans f2, hl, hg, ?_⟩
  intro hn
  obtain ⟨o, ho, hc⟩ := hh hn
  exact ⟨o, ho, fun i x hx => Lib.Below.cellOf hb (hc i x hx) (Nat.le_refl _)⟩
set_option maxRecDepth 100000 in
theorem number_long (w : World) (g h c : Nat) (p : Option Addr) (b : UInt8) (t : List UInt8) (k : Nat) (hk : b.toNat = 239 + k) (hk1 : 1 ≤ k) (hk8 : k ≤ 8) (hn : k ≤ t.length) (x : Nat) (hx : valB (t.take k) = x) (ho : x ≤ 9223372036854775807) (he : (enc x).length ≤ k) (r : Rd w g h p c (b :: t)) : Calls Tryz.prog 71 #[.pointer (some ⟨g, 0, none⟩)] w (Rs w g h (.int .i64 0) [] 3) := by
  have TL : Hid (Calls _ _ _ _ _) := first_take w g h c p b t r
  clear r
  have d0 : decide ((b.toNat : Int) < 240) = false := decide_eq_false (by omega)
  have hkz : (b.toNat : Int) - 239 = (k : Int) := by omega
  have hbu : (b.toNat : Int) ≤ 255 := by have := b.toNat_lt; omega
  clear hk
  have HX : Hid (valB (t.take k) = x) := hx
  have d1 : decide ((9223372036854775807 : Int) < (x : Int)) = false := decide_eq_false (by omega)
  have HN : Hid (∀ w, Calls Tryz.prog 80 #[.int .i64 (x : Int)] w (NB w (enc x))) := fun w => by
    have := number_calls (x : Int) (by omega) w
    rw [Int.toNat_natCast] at this
    exact this
  have hw : IntKind.i64.wrap (x : Int) = (x : Int) := by rw [IntKind.wrap_i64]; omega
  have hw2 : wrap64 (x : Int) = (x : Int) := by unfold wrap64; omega
  clear hx ho
  have hez : ((enc x).length : Int) ≤ (k : Int) := by omega
  go_enter Tryz.func71, Tryz.ntmps71
  go_wp2_with fail
  refine Calls.mono TL.out ?_
  rintro e w1 ⟨o, rfl, h1, hc, h3⟩
  obtain ⟨p1, c1, r1⟩ := st_live h1
  have H3 : Hid (KB g w w1) := h3
  have R1 : Hid (Rd w1 g h p1 c1 t) := r1
  clear h1 h3 r1
  have k8 : ¬ ((8 : Int) < (k : Int)) := by omega
  go_wp2_with fail
  refine (word_live w1 g h c1 p1 t k hk1 hk8 hn R1.out).mono ?_
  rintro e w2 ⟨rfl, h1, h3⟩
  rw [HX.out]
  obtain ⟨p2, c2, r2⟩ := st_live h1
  have R2 : Hid (Rd w2 g h p2 c2 (t.drop k)) := r2
  have S2 : Hid (St w2 g h (t.drop k) 0) := h1
  have H6 : Hid (KB g w1 w2) := h3
  clear h1 h3 r2 hc
  go_wp2_with fail
  refine (HN.out w2).mono ?_
  intro e w3 hN
  obtain ⟨gg, _, rfl, _, hb⟩ := hN
  have H7 : Hid (KB g w2 w3) := KB.of_below hb
  have R3 : Hid (Rd w3 g h p2 c2 (t.drop k)) := rd_below R2.out hb
  clear hb
  go_wp2_with fail
  refine (fail_live w3 g h c2 p2 (t.drop k) 3 rfl R3.out).mono ?_
  rintro e w4 ⟨rfl, h1, h3⟩
  have H4 : Hid (St _ _ _ _ _) := h1
  have H5 : Hid (KB _ _ _) := h3
  clear h1 h3
  go_wp2
  go_ret
  exact ⟨rfl, H4.out, ((H3.out.trans H6.out).trans H7.out).trans H5.out⟩
set_option maxRecDepth 100000 in
theorem number_ok (w : World) (g h c : Nat) (p : Option Addr) (b : UInt8) (t : List UInt8) (k : Nat) (hk : b.toNat = 239 + k) (hk1 : 1 ≤ k) (hk8 : k ≤ 8) (hn : k ≤ t.length) (x : Nat) (hx : valB (t.take k) = x) (ho : x ≤ 9223372036854775807) (he : k < (enc x).length) (r : Rd w g h p c (b :: t)) : Calls Tryz.prog 71 #[.pointer (some ⟨g, 0, none⟩)] w (Rs w g h (.int .i64 (x : Int)) (t.drop k) 0) := by
  have TL : Hid (Calls _ _ _ _ _) := first_take w g h c p b t r
  clear r
  have d0 : decide ((b.toNat : Int) < 240) = false := decide_eq_false (by omega)
  have hkz : (b.toNat : Int) - 239 = (k : Int) := by omega
  have hbu : (b.toNat : Int) ≤ 255 := by have := b.toNat_lt; omega
  clear hk
  have HX : Hid (valB (t.take k) = x) := hx
  have d1 : decide ((9223372036854775807 : Int) < (x : Int)) = false := decide_eq_false (by omega)
  have HN : Hid (∀ w, Calls Tryz.prog 80 #[.int .i64 (x : Int)] w (NB w (enc x))) := fun w => by
    have := number_calls (x : Int) (by omega) w
    rw [Int.toNat_natCast] at this
    exact this
  have hw : IntKind.i64.wrap (x : Int) = (x : Int) := by rw [IntKind.wrap_i64]; omega
  have hw2 : wrap64 (x : Int) = (x : Int) := by unfold wrap64; omega
  clear hx ho
  have hez : ¬ ((enc x).length : Int) ≤ (k : Int) := by omega
  go_enter Tryz.func71, Tryz.ntmps71
  go_wp2_with fail
  refine Calls.mono TL.out ?_
  rintro e w1 ⟨o, rfl, h1, hc, h3⟩
  obtain ⟨p1, c1, r1⟩ := st_live h1
  have H3 : Hid (KB g w w1) := h3
  have R1 : Hid (Rd w1 g h p1 c1 t) := r1
  clear h1 h3 r1
  have k8 : ¬ ((8 : Int) < (k : Int)) := by omega
  go_wp2_with fail
  refine (word_live w1 g h c1 p1 t k hk1 hk8 hn R1.out).mono ?_
  rintro e w2 ⟨rfl, h1, h3⟩
  rw [HX.out]
  obtain ⟨p2, c2, r2⟩ := st_live h1
  have R2 : Hid (Rd w2 g h p2 c2 (t.drop k)) := r2
  have S2 : Hid (St w2 g h (t.drop k) 0) := h1
  have H6 : Hid (KB g w1 w2) := h3
  clear h1 h3 r2 hc
  go_wp2_with fail
  refine (HN.out w2).mono ?_
  intro e w3 hN
  obtain ⟨gg, _, rfl, _, hb⟩ := hN
  have H7 : Hid (KB g w2 w3) := KB.of_below hb
  have R3 : Hid (Rd w3 g h p2 c2 (t.drop k)) := rd_below R2.out hb
  clear hb
  go_wp2
  go_ret
  exact ⟨rfl, .inl ⟨rfl, _, _, R3.out⟩, (H3.out.trans H6.out).trans H7.out⟩
end Go.Proofs.YtkaaddahegkmgaaGreat
