/- The contract of Encode. -/
import Derived.Test.YtacmlholbnddpaaGA
import Derived.Test.YtacmlholbnddpaaLK
namespace Go.Proofs.Ytacmlholbnddpaa
open Go.ChangeShapes Go.WideShapes Go.ChangeAt Go.RowKit
/-- The bytes of an event. -/
def encE (N : Nat) (x : Ev) : List UInt8 :=
  enc x.k.toNat ++ enc x.t.toNat ++ (if hN x.k then enc x.n.toNat else []) ++ (if hD x.k then enc x.d.toNat else []) ++ (if hM x.k || hT x.k then enc x.s.size ++ x.s.data.toList else []) ++ (if hV x.k then bytesT N x.v else []) ++ (if hP x.k then eP x.f x.c x.m else [])
structure EFit (k t n d : Int) (s : ByteArray) : Prop where
  k1 : k < 9223372036854775808
  t1 : t < 9223372036854775808
  n1 : n < 9223372036854775808
  d1 : d < 9223372036854775808
/-- What Encode leaves, of an event that may be. -/
def EnP (L : List UInt8) (w : World) (e : Ending) (w' : World) : Prop := ∃ a c, e = .returned (.tuple #[.slice a L.length c, .int .i64 0]) ∧ Lib.HoldsBytes w' (.slice a L.length c) L ∧ Below w.heap.size w w'
theorem enp {L : List UInt8} {w w' : World} {v : Value} (h : Lib.HoldsBytes w' v L) (hb : Below w.heap.size w w') : EnP L w (.returned (.tuple #[v, .int .i64 0])) w' := by
  obtain ⟨p, c, rfl, h1, h2⟩ := h
  exact ⟨p, c, rfl, ⟨p, c, rfl, h1, h2⟩, hb⟩
theorem holds_slice {w : World} {v : Value} {l : List UInt8} (h : Lib.HoldsBytes w v l) : ∃ a c, v = .slice a l.length c := by
  obtain ⟨p, c, rfl, _⟩ := h
  exact ⟨p, c, rfl⟩
theorem may_size {k : Int} {s : ByteArray} (h : nmf k s = true) (hh : (hM k || hT k) = true) : s.size ≤ 200 := by
  unfold nmf at h
  cases hm : hM k with
  | true => rw [hm] at h; simp only [if_true] at h; unfold nmB at h; simp at h; omega
  | false =>
    rw [hm] at h hh
    simp only [Bool.false_or] at hh
    rw [hh] at h
    simpa using h
set_option maxHeartbeats 2000000 in
set_option maxRecDepth 100000 in
theorem encode_54 (nn : Nat) (tv : Tv) (k t n d : Int) (s : ByteArray) (vk vx vb : Int) (vs : ByteArray) (la : Option Addr) (ll lc : Nat) (f : Int) (c : Nat) (m : Int) (hf : EFit k t n d s) (hp : PFit f c m) (hk : pt k = 54) (hs : s.size ≤ 200) (hmv : May (nn + 1) tv) (w : World) (h : Is w (nn + 1) (.agg #[.int .i64 vk, .int .i64 vx, .int .u64 vb, .string vs, .slice la ll lc]) tv) (hmay : MayE (nn + 1) ⟨k, t, n, d, s, tv, f, c, m⟩) :
    Calls Try.prog 14 #[(.agg #[.int .i64 k, .int .i64 t, .int .i64 n, .int .i64 d, .string s, .int .i64 vk, .int .i64 vx, .int .u64 vb, .string vs, .slice la ll lc, .int .i64 f, .int .u64 (c : Int), .int .i64 m])] w (EnP ((((((([] : List UInt8) ++ enc k.toNat) ++ enc t.toNat) ++ enc d.toNat) ++ enc s.size ++ s.data.toList) ++ bytesT (nn + 1) tv) ++ eP f c m) w) := by
  have CK : Hid (∀ W, Below w.heap.size w W → Calls Try.prog 10 #[(.agg #[.int .i64 k, .int .i64 t, .int .i64 n, .int .i64 d, .string s, .int .i64 vk, .int .i64 vx, .int .u64 vb, .string vs, .slice la ll lc, .int .i64 f, .int .u64 (c : Int), .int .i64 m])] W fun e w' => e = .returned (.int .i64 0) ∧ Below W.heap.size W w') := fun W hB => (evcheck_calls nn tv k t n d s vk vx vb vs la ll lc f c m hp.c1 W (h.below hB)).mono fun e w' ⟨r, h1, h2, _, h4⟩ => ⟨by rw [h1, h2 hmay], h4⟩
  have PC : Hid (∀ W, Calls Try.prog 25 #[.int .i64 k] W fun e w' => e = .returned (.int .i64 54) ∧ w' = W) := fun W => by have := parts_calls k W; rw [hk] at this; exact this
  have a1 : bits BinOp.and IntKind.i64 54 1 = 0 := by decide +kernel
  have a2 : bits BinOp.and IntKind.i64 54 2 = 2 := by decide +kernel
  have a12 : bits BinOp.and IntKind.i64 54 12 = 4 := by decide +kernel
  have a16 : bits BinOp.and IntKind.i64 54 16 = 16 := by decide +kernel
  have a32 : bits BinOp.and IntKind.i64 54 32 = 32 := by decide +kernel
  have le0 : (enc k.toNat).length ≤ 9 := enc_length k.toNat (by have := hf.k1; omega)
  have le1 : (enc t.toNat).length ≤ 9 := enc_length t.toNat (by have := hf.t1; omega)
  have N0 : Hid (∀ W, Calls Try.prog 26 #[.slice none 0 0, .int .i64 k] W (NB W (([] : List UInt8) ++ enc k.toNat))) := fun W => num_calls _ [] k hf.k1 W (holds_nil W) (by decide)
  have N1 : Hid (∀ W v, Lib.HoldsBytes W v (([] : List UInt8) ++ enc k.toNat) → Calls Try.prog 26 #[v, .int .i64 t] W (NB W ((([] : List UInt8) ++ enc k.toNat) ++ enc t.toNat))) := fun W v hv => num_calls v _ t hf.t1 W hv (by simp only [List.length_append, List.length_nil]; omega)
  have le2 : (enc d.toNat).length ≤ 9 := enc_length d.toNat (by have := hf.d1; omega)
  have N2 : Hid (∀ W v, Lib.HoldsBytes W v ((([] : List UInt8) ++ enc k.toNat) ++ enc t.toNat) → Calls Try.prog 26 #[v, .int .i64 d] W (NB W (((([] : List UInt8) ++ enc k.toNat) ++ enc t.toNat) ++ enc d.toNat))) := fun W v hv => num_calls v _ d hf.d1 W hv (by simp only [List.length_append, List.length_nil]; omega)
  have le3 : (enc s.size).length ≤ 9 := enc_length s.size (by omega)
  have ls3 := str_len s
  have N3 : Hid (∀ W v, Lib.HoldsBytes W v (((([] : List UInt8) ++ enc k.toNat) ++ enc t.toNat) ++ enc d.toNat) → Calls Try.prog 27 #[v, .string s] W (NB W ((((([] : List UInt8) ++ enc k.toNat) ++ enc t.toNat) ++ enc d.toNat) ++ enc s.size ++ s.data.toList))) := fun W v hv => text_calls v _ s W hv (by omega) (by simp only [List.length_append, List.length_nil]; omega)
  have le4 : (bytesT (nn + 1) tv).length ≤ 1000 := hmv.2
  have N4 : Hid (∀ W v, Below w.heap.size w W → Lib.HoldsBytes W v ((((([] : List UInt8) ++ enc k.toNat) ++ enc t.toNat) ++ enc d.toNat) ++ enc s.size ++ s.data.toList) → Calls Try.prog 28 #[v, (.agg #[.int .i64 vk, .int .i64 vx, .int .u64 vb, .string vs, .slice la ll lc])] W fun e w' => ∃ v', e = .returned v' ∧ Lib.HoldsBytes w' v' (((((([] : List UInt8) ++ enc k.toNat) ++ enc t.toNat) ++ enc d.toNat) ++ enc s.size ++ s.data.toList) ++ bytesT (nn + 1) tv) ∧ Below W.heap.size W w') := fun W v hB hv => (put_calls (nn + 1) (.agg #[.int .i64 vk, .int .i64 vx, .int .u64 vb, .string vs, .slice la ll lc]) tv v _ W (h.below hB) hv (by simp only [List.length_append, List.length_nil]; omega)).mono fun e w' ⟨v', h1, h2, _, h4⟩ => ⟨v', h1, h2 hmv, h4⟩
  have N5 : Hid (∀ W v, Lib.HoldsBytes W v (((((([] : List UInt8) ++ enc k.toNat) ++ enc t.toNat) ++ enc d.toNat) ++ enc s.size ++ s.data.toList) ++ bytesT (nn + 1) tv) → Calls Try.prog 29 #[v, .agg #[.int .i64 f, .int .u64 (c : Int), .int .i64 m]] W (NB W ((((((([] : List UInt8) ++ enc k.toNat) ++ enc t.toNat) ++ enc d.toNat) ++ enc s.size ++ s.data.toList) ++ bytesT (nn + 1) tv) ++ eP f c m))) := fun W v hv => pput_calls v _ f c m hp W hv (by simp only [List.length_append, List.length_nil]; omega)
  have HE : Hid (∀ v w', Lib.HoldsBytes w' v ((((((([] : List UInt8) ++ enc k.toNat) ++ enc t.toNat) ++ enc d.toNat) ++ enc s.size ++ s.data.toList) ++ bytesT (nn + 1) tv) ++ eP f c m) → Below w.heap.size w w' → EnP ((((((([] : List UInt8) ++ enc k.toNat) ++ enc t.toNat) ++ enc d.toNat) ++ enc s.size ++ s.data.toList) ++ bytesT (nn + 1) tv) ++ eP f c m) w (.returned (.tuple #[v, .int .i64 0])) w') := fun v w' h1 h2 => enp h1 h2
  generalize EnP ((((((([] : List UInt8) ++ enc k.toNat) ++ enc t.toNat) ++ enc d.toNat) ++ enc s.size ++ s.data.toList) ++ bytesT (nn + 1) tv) ++ eP f c m) w = Q at HE ⊢
  generalize ((((((([] : List UInt8) ++ enc k.toNat) ++ enc t.toNat) ++ enc d.toNat) ++ enc s.size ++ s.data.toList) ++ bytesT (nn + 1) tv) ++ eP f c m) = L5 at N5 HE
  generalize (((((([] : List UInt8) ++ enc k.toNat) ++ enc t.toNat) ++ enc d.toNat) ++ enc s.size ++ s.data.toList) ++ bytesT (nn + 1) tv) = L4 at N4 N5
  generalize ((((([] : List UInt8) ++ enc k.toNat) ++ enc t.toNat) ++ enc d.toNat) ++ enc s.size ++ s.data.toList) = L3 at N3 N4
  generalize (((([] : List UInt8) ++ enc k.toNat) ++ enc t.toNat) ++ enc d.toNat) = L2 at N2 N3
  generalize ((([] : List UInt8) ++ enc k.toNat) ++ enc t.toNat) = L1 at N1 N2
  generalize (([] : List UInt8) ++ enc k.toNat) = L0 at N0 N1
  have HX0 : Hid (At13 (w.alloc (.cells #[.int .i64 k, .int .i64 t, .int .i64 n, .int .i64 d, .string s, .int .i64 vk, .int .i64 vx, .int .u64 vb, .string vs, .slice la ll lc, .int .i64 f, .int .u64 (c : Int), .int .i64 m] 39)) w.heap.size (.int .i64 k) (.int .i64 t) (.int .i64 n) (.int .i64 d) (.string s) (.int .i64 vk) (.int .i64 vx) (.int .u64 vb) (.string vs) (.slice la ll lc) (.int .i64 f) (.int .u64 (c : Int)) (.int .i64 m)) := At13.box w (.int .i64 k) (.int .i64 t) (.int .i64 n) (.int .i64 d) (.string s) (.int .i64 vk) (.int .i64 vx) (.int .u64 vb) (.string vs) (.slice la ll lc) (.int .i64 f) (.int .u64 (c : Int)) (.int .i64 m)
  have HB0 : Hid (Below w.heap.size w (w.alloc (.cells #[.int .i64 k, .int .i64 t, .int .i64 n, .int .i64 d, .string s, .int .i64 vk, .int .i64 vx, .int .u64 vb, .string vs, .slice la ll lc, .int .i64 f, .int .u64 (c : Int), .int .i64 m] 39))) := bel1 _ _
  clear h hmay hf hp hk hs hmv le0 le1 le2 le3 le4 ls3
  go_enter Try.func14, Try.ntmps14
  go_wp2_with fail
  refine Calls.mono (CK.out _ ?_) ?_
  · exact bel1 _ _
  rintro e w1 ⟨rfl, hb⟩
  have HB1 : Hid (Below w.heap.size w w1) := bel2 HB0.out hb
  have HX1 : Hid (At13 w1 w.heap.size (.int .i64 k) (.int .i64 t) (.int .i64 n) (.int .i64 d) (.string s) (.int .i64 vk) (.int .i64 vx) (.int .u64 vb) (.string vs) (.slice la ll lc) (.int .i64 f) (.int .u64 (c : Int)) (.int .i64 m)) := HX0.out.below hb
  clear hb
  obtain ⟨x0, x1, x2, x3, x4, x5, x6, x7, x8, x9, x10, x11, x12⟩ := HX1.out
  go_wp2_with fail
  refine (PC.out _).mono ?_
  rintro e w2 ⟨rfl, e1⟩
  have e2 := e1.symm
  subst e2
  clear e1
  go_wp2_with fail
  go_region_held3 (fun w' => w'.cell? ⟨w.heap.size, 0, none⟩ = some (.int .i64 k) ∧ w'.cell? ⟨w.heap.size, 1, none⟩ = some (.int .i64 t)) (go_keep) (first
    | (go_at_call_of 26 (Value.int IntKind.i64 k); refine (N0.out _).mono ?_; rintro e w3 ⟨g3, q3, rfl, h3, hb3⟩; have H3 : Hid (Lib.HoldsBytes w3 (.slice (some ⟨g3, 0, none⟩) L0.length L0.length) L0) := h3; have B3 : Hid (Below w.heap.size w w3) := (by first | exact bel2 HB1.out hb3 | exact bel2 HB1.out.drew hb3); have y0 := cellB x0 (show Below w1.heap.size w1 w3 from (by first | exact hb3 | exact bel2 (Below.refl _ w1).drew hb3)); have y1 := cellB x1 (show Below w1.heap.size w1 w3 from (by first | exact hb3 | exact bel2 (Below.refl _ w1).drew hb3)); have HX3 : Hid (At13 w3 w.heap.size (.int .i64 k) (.int .i64 t) (.int .i64 n) (.int .i64 d) (.string s) (.int .i64 vk) (.int .i64 vx) (.int .u64 vb) (.string vs) (.slice la ll lc) (.int .i64 f) (.int .u64 (c : Int)) (.int .i64 m)) := HX1.out.below (by first | exact hb3 | exact bel2 (Below.refl _ w1).drew hb3); clear hb3 h3 q3)
    | (go_at_call_of 26 (Value.int IntKind.i64 t); refine (N1.out _ _ H3.out).mono ?_; rintro e w4 ⟨g4, q4, rfl, h4, hb4⟩; have H4 : Hid (Lib.HoldsBytes w4 (.slice (some ⟨g4, 0, none⟩) L1.length L1.length) L1) := h4; have B4 : Hid (Below w.heap.size w w4) := bel2 B3.out hb4; have z0 := cellB y0 hb4; have z1 := cellB y1 hb4; have HX4 : Hid (At13 w4 w.heap.size (.int .i64 k) (.int .i64 t) (.int .i64 n) (.int .i64 d) (.string s) (.int .i64 vk) (.int .i64 vx) (.int .u64 vb) (.string vs) (.slice la ll lc) (.int .i64 f) (.int .u64 (c : Int)) (.int .i64 m)) := HX3.out.below hb4; clear hb4 h4 q4))
  clear x0 x1 x2 x3 x4 x5 x6 x7 x8 x9 x10 x11 x12 y0 y1 z0 z1
  obtain ⟨x0, x1, x2, x3, x4, x5, x6, x7, x8, x9, x10, x11, x12⟩ := HX4.out
  go_wp2_with fail
  refine (N2.out _ _ H4.out).mono ?_
  rintro e w5 ⟨g5, q5, rfl, h5, hb5⟩
  have H5 : Hid (Lib.HoldsBytes w5 (.slice (some ⟨g5, 0, none⟩) L2.length L2.length) L2) := h5
  clear q5
  have B5 : Hid (Below w.heap.size w w5) := bel2 B4.out hb5
  have HX5 : Hid (At13 w5 w.heap.size (.int .i64 k) (.int .i64 t) (.int .i64 n) (.int .i64 d) (.string s) (.int .i64 vk) (.int .i64 vx) (.int .u64 vb) (.string vs) (.slice la ll lc) (.int .i64 f) (.int .u64 (c : Int)) (.int .i64 m)) := HX4.out.below hb5
  clear hb5 h5 x0 x1 x2 x3 x4 x5 x6 x7 x8 x9 x10 x11 x12
  obtain ⟨x0, x1, x2, x3, x4, x5, x6, x7, x8, x9, x10, x11, x12⟩ := HX5.out
  go_wp2_with fail
  refine (N3.out _ _ H5.out).mono ?_
  rintro e w6 ⟨g6, q6, rfl, h6, hb6⟩
  have H6 : Hid (Lib.HoldsBytes w6 (.slice (some ⟨g6, 0, none⟩) L3.length L3.length) L3) := h6
  clear q6
  have B6 : Hid (Below w.heap.size w w6) := bel2 B5.out hb6
  have HX6 : Hid (At13 w6 w.heap.size (.int .i64 k) (.int .i64 t) (.int .i64 n) (.int .i64 d) (.string s) (.int .i64 vk) (.int .i64 vx) (.int .u64 vb) (.string vs) (.slice la ll lc) (.int .i64 f) (.int .u64 (c : Int)) (.int .i64 m)) := HX5.out.below hb6
  clear hb6 h6 x0 x1 x2 x3 x4 x5 x6 x7 x8 x9 x10 x11 x12
  obtain ⟨x0, x1, x2, x3, x4, x5, x6, x7, x8, x9, x10, x11, x12⟩ := HX6.out
  go_wp2_with fail
  refine (N4.out _ _ B6.out H6.out).mono ?_
  rintro e w7 ⟨v7, rfl, h7, hb7⟩
  obtain ⟨va7, vc7, rfl⟩ := holds_slice h7
  have H7 : Hid (Lib.HoldsBytes w7 (.slice va7 L4.length vc7) L4) := h7
  have B7 : Hid (Below w.heap.size w w7) := bel2 B6.out hb7
  have HX7 : Hid (At13 w7 w.heap.size (.int .i64 k) (.int .i64 t) (.int .i64 n) (.int .i64 d) (.string s) (.int .i64 vk) (.int .i64 vx) (.int .u64 vb) (.string vs) (.slice la ll lc) (.int .i64 f) (.int .u64 (c : Int)) (.int .i64 m)) := HX6.out.below hb7
  clear hb7 h7 x0 x1 x2 x3 x4 x5 x6 x7 x8 x9 x10 x11 x12
  obtain ⟨x0, x1, x2, x3, x4, x5, x6, x7, x8, x9, x10, x11, x12⟩ := HX7.out
  go_wp2_with fail
  refine (N5.out _ _ H7.out).mono ?_
  rintro e w8 ⟨g8, q8, rfl, h8, hb8⟩
  have H8 : Hid (Lib.HoldsBytes w8 (.slice (some ⟨g8, 0, none⟩) L5.length L5.length) L5) := h8
  clear q8
  have B8 : Hid (Below w.heap.size w w8) := bel2 B7.out hb8
  have HX8 : Hid (At13 w8 w.heap.size (.int .i64 k) (.int .i64 t) (.int .i64 n) (.int .i64 d) (.string s) (.int .i64 vk) (.int .i64 vx) (.int .u64 vb) (.string vs) (.slice la ll lc) (.int .i64 f) (.int .u64 (c : Int)) (.int .i64 m)) := HX7.out.below hb8
  clear hb8 h8 x0 x1 x2 x3 x4 x5 x6 x7 x8 x9 x10 x11 x12
  go_wp2_with fail
  exact HE.out _ _ H8.out B8.out
set_option maxHeartbeats 2000000 in
set_option maxRecDepth 100000 in
theorem encode_20 (nn : Nat) (tv : Tv) (k t n d : Int) (s : ByteArray) (vk vx vb : Int) (vs : ByteArray) (la : Option Addr) (ll lc : Nat) (f : Int) (c : Nat) (m : Int) (hf : EFit k t n d s) (hp : PFit f c m) (hk : pt k = 20) (hs : s.size ≤ 200) (hmv : May (nn + 1) tv) (w : World) (h : Is w (nn + 1) (.agg #[.int .i64 vk, .int .i64 vx, .int .u64 vb, .string vs, .slice la ll lc]) tv) (hmay : MayE (nn + 1) ⟨k, t, n, d, s, tv, f, c, m⟩) :
    Calls Try.prog 14 #[(.agg #[.int .i64 k, .int .i64 t, .int .i64 n, .int .i64 d, .string s, .int .i64 vk, .int .i64 vx, .int .u64 vb, .string vs, .slice la ll lc, .int .i64 f, .int .u64 (c : Int), .int .i64 m])] w (EnP ((((([] : List UInt8) ++ enc k.toNat) ++ enc t.toNat) ++ enc s.size ++ s.data.toList) ++ bytesT (nn + 1) tv) w) := by
  have CK : Hid (∀ W, Below w.heap.size w W → Calls Try.prog 10 #[(.agg #[.int .i64 k, .int .i64 t, .int .i64 n, .int .i64 d, .string s, .int .i64 vk, .int .i64 vx, .int .u64 vb, .string vs, .slice la ll lc, .int .i64 f, .int .u64 (c : Int), .int .i64 m])] W fun e w' => e = .returned (.int .i64 0) ∧ Below W.heap.size W w') := fun W hB => (evcheck_calls nn tv k t n d s vk vx vb vs la ll lc f c m hp.c1 W (h.below hB)).mono fun e w' ⟨r, h1, h2, _, h4⟩ => ⟨by rw [h1, h2 hmay], h4⟩
  have PC : Hid (∀ W, Calls Try.prog 25 #[.int .i64 k] W fun e w' => e = .returned (.int .i64 20) ∧ w' = W) := fun W => by have := parts_calls k W; rw [hk] at this; exact this
  have a1 : bits BinOp.and IntKind.i64 20 1 = 0 := by decide +kernel
  have a2 : bits BinOp.and IntKind.i64 20 2 = 0 := by decide +kernel
  have a12 : bits BinOp.and IntKind.i64 20 12 = 4 := by decide +kernel
  have a16 : bits BinOp.and IntKind.i64 20 16 = 16 := by decide +kernel
  have a32 : bits BinOp.and IntKind.i64 20 32 = 0 := by decide +kernel
  have le0 : (enc k.toNat).length ≤ 9 := enc_length k.toNat (by have := hf.k1; omega)
  have le1 : (enc t.toNat).length ≤ 9 := enc_length t.toNat (by have := hf.t1; omega)
  have N0 : Hid (∀ W, Calls Try.prog 26 #[.slice none 0 0, .int .i64 k] W (NB W (([] : List UInt8) ++ enc k.toNat))) := fun W => num_calls _ [] k hf.k1 W (holds_nil W) (by decide)
  have N1 : Hid (∀ W v, Lib.HoldsBytes W v (([] : List UInt8) ++ enc k.toNat) → Calls Try.prog 26 #[v, .int .i64 t] W (NB W ((([] : List UInt8) ++ enc k.toNat) ++ enc t.toNat))) := fun W v hv => num_calls v _ t hf.t1 W hv (by simp only [List.length_append, List.length_nil]; omega)
  have le2 : (enc s.size).length ≤ 9 := enc_length s.size (by omega)
  have ls2 := str_len s
  have N2 : Hid (∀ W v, Lib.HoldsBytes W v ((([] : List UInt8) ++ enc k.toNat) ++ enc t.toNat) → Calls Try.prog 27 #[v, .string s] W (NB W (((([] : List UInt8) ++ enc k.toNat) ++ enc t.toNat) ++ enc s.size ++ s.data.toList))) := fun W v hv => text_calls v _ s W hv (by omega) (by simp only [List.length_append, List.length_nil]; omega)
  have le3 : (bytesT (nn + 1) tv).length ≤ 1000 := hmv.2
  have N3 : Hid (∀ W v, Below w.heap.size w W → Lib.HoldsBytes W v (((([] : List UInt8) ++ enc k.toNat) ++ enc t.toNat) ++ enc s.size ++ s.data.toList) → Calls Try.prog 28 #[v, (.agg #[.int .i64 vk, .int .i64 vx, .int .u64 vb, .string vs, .slice la ll lc])] W fun e w' => ∃ v', e = .returned v' ∧ Lib.HoldsBytes w' v' ((((([] : List UInt8) ++ enc k.toNat) ++ enc t.toNat) ++ enc s.size ++ s.data.toList) ++ bytesT (nn + 1) tv) ∧ Below W.heap.size W w') := fun W v hB hv => (put_calls (nn + 1) (.agg #[.int .i64 vk, .int .i64 vx, .int .u64 vb, .string vs, .slice la ll lc]) tv v _ W (h.below hB) hv (by simp only [List.length_append, List.length_nil]; omega)).mono fun e w' ⟨v', h1, h2, _, h4⟩ => ⟨v', h1, h2 hmv, h4⟩
  have HE : Hid (∀ v w', Lib.HoldsBytes w' v ((((([] : List UInt8) ++ enc k.toNat) ++ enc t.toNat) ++ enc s.size ++ s.data.toList) ++ bytesT (nn + 1) tv) → Below w.heap.size w w' → EnP ((((([] : List UInt8) ++ enc k.toNat) ++ enc t.toNat) ++ enc s.size ++ s.data.toList) ++ bytesT (nn + 1) tv) w (.returned (.tuple #[v, .int .i64 0])) w') := fun v w' h1 h2 => enp h1 h2
  generalize EnP ((((([] : List UInt8) ++ enc k.toNat) ++ enc t.toNat) ++ enc s.size ++ s.data.toList) ++ bytesT (nn + 1) tv) w = Q at HE ⊢
  generalize ((((([] : List UInt8) ++ enc k.toNat) ++ enc t.toNat) ++ enc s.size ++ s.data.toList) ++ bytesT (nn + 1) tv) = L3 at N3 HE
  generalize (((([] : List UInt8) ++ enc k.toNat) ++ enc t.toNat) ++ enc s.size ++ s.data.toList) = L2 at N2 N3
  generalize ((([] : List UInt8) ++ enc k.toNat) ++ enc t.toNat) = L1 at N1 N2
  generalize (([] : List UInt8) ++ enc k.toNat) = L0 at N0 N1
  have HX0 : Hid (At13 (w.alloc (.cells #[.int .i64 k, .int .i64 t, .int .i64 n, .int .i64 d, .string s, .int .i64 vk, .int .i64 vx, .int .u64 vb, .string vs, .slice la ll lc, .int .i64 f, .int .u64 (c : Int), .int .i64 m] 39)) w.heap.size (.int .i64 k) (.int .i64 t) (.int .i64 n) (.int .i64 d) (.string s) (.int .i64 vk) (.int .i64 vx) (.int .u64 vb) (.string vs) (.slice la ll lc) (.int .i64 f) (.int .u64 (c : Int)) (.int .i64 m)) := At13.box w (.int .i64 k) (.int .i64 t) (.int .i64 n) (.int .i64 d) (.string s) (.int .i64 vk) (.int .i64 vx) (.int .u64 vb) (.string vs) (.slice la ll lc) (.int .i64 f) (.int .u64 (c : Int)) (.int .i64 m)
  have HB0 : Hid (Below w.heap.size w (w.alloc (.cells #[.int .i64 k, .int .i64 t, .int .i64 n, .int .i64 d, .string s, .int .i64 vk, .int .i64 vx, .int .u64 vb, .string vs, .slice la ll lc, .int .i64 f, .int .u64 (c : Int), .int .i64 m] 39))) := bel1 _ _
  clear h hmay hf hp hk hs hmv le0 le1 le2 le3 ls2
  go_enter Try.func14, Try.ntmps14
  go_wp2_with fail
  refine Calls.mono (CK.out _ ?_) ?_
  · exact bel1 _ _
  rintro e w1 ⟨rfl, hb⟩
  have HB1 : Hid (Below w.heap.size w w1) := bel2 HB0.out hb
  have HX1 : Hid (At13 w1 w.heap.size (.int .i64 k) (.int .i64 t) (.int .i64 n) (.int .i64 d) (.string s) (.int .i64 vk) (.int .i64 vx) (.int .u64 vb) (.string vs) (.slice la ll lc) (.int .i64 f) (.int .u64 (c : Int)) (.int .i64 m)) := HX0.out.below hb
  clear hb
  obtain ⟨x0, x1, x2, x3, x4, x5, x6, x7, x8, x9, x10, x11, x12⟩ := HX1.out
  go_wp2_with fail
  refine (PC.out _).mono ?_
  rintro e w2 ⟨rfl, e1⟩
  have e2 := e1.symm
  subst e2
  clear e1
  go_wp2_with fail
  go_region_held3 (fun w' => w'.cell? ⟨w.heap.size, 0, none⟩ = some (.int .i64 k) ∧ w'.cell? ⟨w.heap.size, 1, none⟩ = some (.int .i64 t)) (go_keep) (first
    | (go_at_call_of 26 (Value.int IntKind.i64 k); refine (N0.out _).mono ?_; rintro e w3 ⟨g3, q3, rfl, h3, hb3⟩; have H3 : Hid (Lib.HoldsBytes w3 (.slice (some ⟨g3, 0, none⟩) L0.length L0.length) L0) := h3; have B3 : Hid (Below w.heap.size w w3) := (by first | exact bel2 HB1.out hb3 | exact bel2 HB1.out.drew hb3); have y0 := cellB x0 (show Below w1.heap.size w1 w3 from (by first | exact hb3 | exact bel2 (Below.refl _ w1).drew hb3)); have y1 := cellB x1 (show Below w1.heap.size w1 w3 from (by first | exact hb3 | exact bel2 (Below.refl _ w1).drew hb3)); have HX3 : Hid (At13 w3 w.heap.size (.int .i64 k) (.int .i64 t) (.int .i64 n) (.int .i64 d) (.string s) (.int .i64 vk) (.int .i64 vx) (.int .u64 vb) (.string vs) (.slice la ll lc) (.int .i64 f) (.int .u64 (c : Int)) (.int .i64 m)) := HX1.out.below (by first | exact hb3 | exact bel2 (Below.refl _ w1).drew hb3); clear hb3 h3 q3)
    | (go_at_call_of 26 (Value.int IntKind.i64 t); refine (N1.out _ _ H3.out).mono ?_; rintro e w4 ⟨g4, q4, rfl, h4, hb4⟩; have H4 : Hid (Lib.HoldsBytes w4 (.slice (some ⟨g4, 0, none⟩) L1.length L1.length) L1) := h4; have B4 : Hid (Below w.heap.size w w4) := bel2 B3.out hb4; have z0 := cellB y0 hb4; have z1 := cellB y1 hb4; have HX4 : Hid (At13 w4 w.heap.size (.int .i64 k) (.int .i64 t) (.int .i64 n) (.int .i64 d) (.string s) (.int .i64 vk) (.int .i64 vx) (.int .u64 vb) (.string vs) (.slice la ll lc) (.int .i64 f) (.int .u64 (c : Int)) (.int .i64 m)) := HX3.out.below hb4; clear hb4 h4 q4))
  clear x0 x1 x2 x3 x4 x5 x6 x7 x8 x9 x10 x11 x12 y0 y1 z0 z1
  obtain ⟨x0, x1, x2, x3, x4, x5, x6, x7, x8, x9, x10, x11, x12⟩ := HX4.out
  go_wp2_with fail
  refine (N2.out _ _ H4.out).mono ?_
  rintro e w5 ⟨g5, q5, rfl, h5, hb5⟩
  have H5 : Hid (Lib.HoldsBytes w5 (.slice (some ⟨g5, 0, none⟩) L2.length L2.length) L2) := h5
  clear q5
  have B5 : Hid (Below w.heap.size w w5) := bel2 B4.out hb5
  have HX5 : Hid (At13 w5 w.heap.size (.int .i64 k) (.int .i64 t) (.int .i64 n) (.int .i64 d) (.string s) (.int .i64 vk) (.int .i64 vx) (.int .u64 vb) (.string vs) (.slice la ll lc) (.int .i64 f) (.int .u64 (c : Int)) (.int .i64 m)) := HX4.out.below hb5
  clear hb5 h5 x0 x1 x2 x3 x4 x5 x6 x7 x8 x9 x10 x11 x12
  obtain ⟨x0, x1, x2, x3, x4, x5, x6, x7, x8, x9, x10, x11, x12⟩ := HX5.out
  go_wp2_with fail
  refine (N3.out _ _ B5.out H5.out).mono ?_
  rintro e w6 ⟨v6, rfl, h6, hb6⟩
  obtain ⟨va6, vc6, rfl⟩ := holds_slice h6
  have H6 : Hid (Lib.HoldsBytes w6 (.slice va6 L3.length vc6) L3) := h6
  have B6 : Hid (Below w.heap.size w w6) := bel2 B5.out hb6
  have HX6 : Hid (At13 w6 w.heap.size (.int .i64 k) (.int .i64 t) (.int .i64 n) (.int .i64 d) (.string s) (.int .i64 vk) (.int .i64 vx) (.int .u64 vb) (.string vs) (.slice la ll lc) (.int .i64 f) (.int .u64 (c : Int)) (.int .i64 m)) := HX5.out.below hb6
  clear hb6 h6 x0 x1 x2 x3 x4 x5 x6 x7 x8 x9 x10 x11 x12
  go_wp2_with fail
  exact HE.out _ _ H6.out B6.out
set_option maxHeartbeats 2000000 in
set_option maxRecDepth 100000 in
theorem encode_16 (nn : Nat) (tv : Tv) (k t n d : Int) (s : ByteArray) (vk vx vb : Int) (vs : ByteArray) (la : Option Addr) (ll lc : Nat) (f : Int) (c : Nat) (m : Int) (hf : EFit k t n d s) (hp : PFit f c m) (hk : pt k = 16) (hmv : May (nn + 1) tv) (w : World) (h : Is w (nn + 1) (.agg #[.int .i64 vk, .int .i64 vx, .int .u64 vb, .string vs, .slice la ll lc]) tv) (hmay : MayE (nn + 1) ⟨k, t, n, d, s, tv, f, c, m⟩) :
    Calls Try.prog 14 #[(.agg #[.int .i64 k, .int .i64 t, .int .i64 n, .int .i64 d, .string s, .int .i64 vk, .int .i64 vx, .int .u64 vb, .string vs, .slice la ll lc, .int .i64 f, .int .u64 (c : Int), .int .i64 m])] w (EnP (((([] : List UInt8) ++ enc k.toNat) ++ enc t.toNat) ++ bytesT (nn + 1) tv) w) := by
  have CK : Hid (∀ W, Below w.heap.size w W → Calls Try.prog 10 #[(.agg #[.int .i64 k, .int .i64 t, .int .i64 n, .int .i64 d, .string s, .int .i64 vk, .int .i64 vx, .int .u64 vb, .string vs, .slice la ll lc, .int .i64 f, .int .u64 (c : Int), .int .i64 m])] W fun e w' => e = .returned (.int .i64 0) ∧ Below W.heap.size W w') := fun W hB => (evcheck_calls nn tv k t n d s vk vx vb vs la ll lc f c m hp.c1 W (h.below hB)).mono fun e w' ⟨r, h1, h2, _, h4⟩ => ⟨by rw [h1, h2 hmay], h4⟩
  have PC : Hid (∀ W, Calls Try.prog 25 #[.int .i64 k] W fun e w' => e = .returned (.int .i64 16) ∧ w' = W) := fun W => by have := parts_calls k W; rw [hk] at this; exact this
  have a1 : bits BinOp.and IntKind.i64 16 1 = 0 := by decide +kernel
  have a2 : bits BinOp.and IntKind.i64 16 2 = 0 := by decide +kernel
  have a12 : bits BinOp.and IntKind.i64 16 12 = 0 := by decide +kernel
  have a16 : bits BinOp.and IntKind.i64 16 16 = 16 := by decide +kernel
  have a32 : bits BinOp.and IntKind.i64 16 32 = 0 := by decide +kernel
  have le0 : (enc k.toNat).length ≤ 9 := enc_length k.toNat (by have := hf.k1; omega)
  have le1 : (enc t.toNat).length ≤ 9 := enc_length t.toNat (by have := hf.t1; omega)
  have N0 : Hid (∀ W, Calls Try.prog 26 #[.slice none 0 0, .int .i64 k] W (NB W (([] : List UInt8) ++ enc k.toNat))) := fun W => num_calls _ [] k hf.k1 W (holds_nil W) (by decide)
  have N1 : Hid (∀ W v, Lib.HoldsBytes W v (([] : List UInt8) ++ enc k.toNat) → Calls Try.prog 26 #[v, .int .i64 t] W (NB W ((([] : List UInt8) ++ enc k.toNat) ++ enc t.toNat))) := fun W v hv => num_calls v _ t hf.t1 W hv (by simp only [List.length_append, List.length_nil]; omega)
  have le2 : (bytesT (nn + 1) tv).length ≤ 1000 := hmv.2
  have N2 : Hid (∀ W v, Below w.heap.size w W → Lib.HoldsBytes W v ((([] : List UInt8) ++ enc k.toNat) ++ enc t.toNat) → Calls Try.prog 28 #[v, (.agg #[.int .i64 vk, .int .i64 vx, .int .u64 vb, .string vs, .slice la ll lc])] W fun e w' => ∃ v', e = .returned v' ∧ Lib.HoldsBytes w' v' (((([] : List UInt8) ++ enc k.toNat) ++ enc t.toNat) ++ bytesT (nn + 1) tv) ∧ Below W.heap.size W w') := fun W v hB hv => (put_calls (nn + 1) (.agg #[.int .i64 vk, .int .i64 vx, .int .u64 vb, .string vs, .slice la ll lc]) tv v _ W (h.below hB) hv (by simp only [List.length_append, List.length_nil]; omega)).mono fun e w' ⟨v', h1, h2, _, h4⟩ => ⟨v', h1, h2 hmv, h4⟩
  have HE : Hid (∀ v w', Lib.HoldsBytes w' v (((([] : List UInt8) ++ enc k.toNat) ++ enc t.toNat) ++ bytesT (nn + 1) tv) → Below w.heap.size w w' → EnP (((([] : List UInt8) ++ enc k.toNat) ++ enc t.toNat) ++ bytesT (nn + 1) tv) w (.returned (.tuple #[v, .int .i64 0])) w') := fun v w' h1 h2 => enp h1 h2
  generalize EnP (((([] : List UInt8) ++ enc k.toNat) ++ enc t.toNat) ++ bytesT (nn + 1) tv) w = Q at HE ⊢
  generalize (((([] : List UInt8) ++ enc k.toNat) ++ enc t.toNat) ++ bytesT (nn + 1) tv) = L2 at N2 HE
  generalize ((([] : List UInt8) ++ enc k.toNat) ++ enc t.toNat) = L1 at N1 N2
  generalize (([] : List UInt8) ++ enc k.toNat) = L0 at N0 N1
  have HX0 : Hid (At13 (w.alloc (.cells #[.int .i64 k, .int .i64 t, .int .i64 n, .int .i64 d, .string s, .int .i64 vk, .int .i64 vx, .int .u64 vb, .string vs, .slice la ll lc, .int .i64 f, .int .u64 (c : Int), .int .i64 m] 39)) w.heap.size (.int .i64 k) (.int .i64 t) (.int .i64 n) (.int .i64 d) (.string s) (.int .i64 vk) (.int .i64 vx) (.int .u64 vb) (.string vs) (.slice la ll lc) (.int .i64 f) (.int .u64 (c : Int)) (.int .i64 m)) := At13.box w (.int .i64 k) (.int .i64 t) (.int .i64 n) (.int .i64 d) (.string s) (.int .i64 vk) (.int .i64 vx) (.int .u64 vb) (.string vs) (.slice la ll lc) (.int .i64 f) (.int .u64 (c : Int)) (.int .i64 m)
  have HB0 : Hid (Below w.heap.size w (w.alloc (.cells #[.int .i64 k, .int .i64 t, .int .i64 n, .int .i64 d, .string s, .int .i64 vk, .int .i64 vx, .int .u64 vb, .string vs, .slice la ll lc, .int .i64 f, .int .u64 (c : Int), .int .i64 m] 39))) := bel1 _ _
  clear h hmay hf hp hk hmv le0 le1 le2 
  go_enter Try.func14, Try.ntmps14
  go_wp2_with fail
  refine Calls.mono (CK.out _ ?_) ?_
  · exact bel1 _ _
  rintro e w1 ⟨rfl, hb⟩
  have HB1 : Hid (Below w.heap.size w w1) := bel2 HB0.out hb
  have HX1 : Hid (At13 w1 w.heap.size (.int .i64 k) (.int .i64 t) (.int .i64 n) (.int .i64 d) (.string s) (.int .i64 vk) (.int .i64 vx) (.int .u64 vb) (.string vs) (.slice la ll lc) (.int .i64 f) (.int .u64 (c : Int)) (.int .i64 m)) := HX0.out.below hb
  clear hb
  obtain ⟨x0, x1, x2, x3, x4, x5, x6, x7, x8, x9, x10, x11, x12⟩ := HX1.out
  go_wp2_with fail
  refine (PC.out _).mono ?_
  rintro e w2 ⟨rfl, e1⟩
  have e2 := e1.symm
  subst e2
  clear e1
  go_wp2_with fail
  go_region_held3 (fun w' => w'.cell? ⟨w.heap.size, 0, none⟩ = some (.int .i64 k) ∧ w'.cell? ⟨w.heap.size, 1, none⟩ = some (.int .i64 t)) (go_keep) (first
    | (go_at_call_of 26 (Value.int IntKind.i64 k); refine (N0.out _).mono ?_; rintro e w3 ⟨g3, q3, rfl, h3, hb3⟩; have H3 : Hid (Lib.HoldsBytes w3 (.slice (some ⟨g3, 0, none⟩) L0.length L0.length) L0) := h3; have B3 : Hid (Below w.heap.size w w3) := (by first | exact bel2 HB1.out hb3 | exact bel2 HB1.out.drew hb3); have y0 := cellB x0 (show Below w1.heap.size w1 w3 from (by first | exact hb3 | exact bel2 (Below.refl _ w1).drew hb3)); have y1 := cellB x1 (show Below w1.heap.size w1 w3 from (by first | exact hb3 | exact bel2 (Below.refl _ w1).drew hb3)); have HX3 : Hid (At13 w3 w.heap.size (.int .i64 k) (.int .i64 t) (.int .i64 n) (.int .i64 d) (.string s) (.int .i64 vk) (.int .i64 vx) (.int .u64 vb) (.string vs) (.slice la ll lc) (.int .i64 f) (.int .u64 (c : Int)) (.int .i64 m)) := HX1.out.below (by first | exact hb3 | exact bel2 (Below.refl _ w1).drew hb3); clear hb3 h3 q3)
    | (go_at_call_of 26 (Value.int IntKind.i64 t); refine (N1.out _ _ H3.out).mono ?_; rintro e w4 ⟨g4, q4, rfl, h4, hb4⟩; have H4 : Hid (Lib.HoldsBytes w4 (.slice (some ⟨g4, 0, none⟩) L1.length L1.length) L1) := h4; have B4 : Hid (Below w.heap.size w w4) := bel2 B3.out hb4; have z0 := cellB y0 hb4; have z1 := cellB y1 hb4; have HX4 : Hid (At13 w4 w.heap.size (.int .i64 k) (.int .i64 t) (.int .i64 n) (.int .i64 d) (.string s) (.int .i64 vk) (.int .i64 vx) (.int .u64 vb) (.string vs) (.slice la ll lc) (.int .i64 f) (.int .u64 (c : Int)) (.int .i64 m)) := HX3.out.below hb4; clear hb4 h4 q4))
  clear x0 x1 x2 x3 x4 x5 x6 x7 x8 x9 x10 x11 x12 y0 y1 z0 z1
  obtain ⟨x0, x1, x2, x3, x4, x5, x6, x7, x8, x9, x10, x11, x12⟩ := HX4.out
  go_wp2_with fail
  refine (N2.out _ _ B4.out H4.out).mono ?_
  rintro e w5 ⟨v5, rfl, h5, hb5⟩
  obtain ⟨va5, vc5, rfl⟩ := holds_slice h5
  have H5 : Hid (Lib.HoldsBytes w5 (.slice va5 L2.length vc5) L2) := h5
  have B5 : Hid (Below w.heap.size w w5) := bel2 B4.out hb5
  have HX5 : Hid (At13 w5 w.heap.size (.int .i64 k) (.int .i64 t) (.int .i64 n) (.int .i64 d) (.string s) (.int .i64 vk) (.int .i64 vx) (.int .u64 vb) (.string vs) (.slice la ll lc) (.int .i64 f) (.int .u64 (c : Int)) (.int .i64 m)) := HX4.out.below hb5
  clear hb5 h5 x0 x1 x2 x3 x4 x5 x6 x7 x8 x9 x10 x11 x12
  go_wp2_with fail
  exact HE.out _ _ H5.out B5.out
set_option maxHeartbeats 2000000 in
set_option maxRecDepth 100000 in
theorem encode_3 (nn : Nat) (tv : Tv) (k t n d : Int) (s : ByteArray) (vk vx vb : Int) (vs : ByteArray) (la : Option Addr) (ll lc : Nat) (f : Int) (c : Nat) (m : Int) (hf : EFit k t n d s) (hp : PFit f c m) (hk : pt k = 3) (w : World) (h : Is w (nn + 1) (.agg #[.int .i64 vk, .int .i64 vx, .int .u64 vb, .string vs, .slice la ll lc]) tv) (hmay : MayE (nn + 1) ⟨k, t, n, d, s, tv, f, c, m⟩) :
    Calls Try.prog 14 #[(.agg #[.int .i64 k, .int .i64 t, .int .i64 n, .int .i64 d, .string s, .int .i64 vk, .int .i64 vx, .int .u64 vb, .string vs, .slice la ll lc, .int .i64 f, .int .u64 (c : Int), .int .i64 m])] w (EnP ((((([] : List UInt8) ++ enc k.toNat) ++ enc t.toNat) ++ enc n.toNat) ++ enc d.toNat) w) := by
  have CK : Hid (∀ W, Below w.heap.size w W → Calls Try.prog 10 #[(.agg #[.int .i64 k, .int .i64 t, .int .i64 n, .int .i64 d, .string s, .int .i64 vk, .int .i64 vx, .int .u64 vb, .string vs, .slice la ll lc, .int .i64 f, .int .u64 (c : Int), .int .i64 m])] W fun e w' => e = .returned (.int .i64 0) ∧ Below W.heap.size W w') := fun W hB => (evcheck_calls nn tv k t n d s vk vx vb vs la ll lc f c m hp.c1 W (h.below hB)).mono fun e w' ⟨r, h1, h2, _, h4⟩ => ⟨by rw [h1, h2 hmay], h4⟩
  have PC : Hid (∀ W, Calls Try.prog 25 #[.int .i64 k] W fun e w' => e = .returned (.int .i64 3) ∧ w' = W) := fun W => by have := parts_calls k W; rw [hk] at this; exact this
  have a1 : bits BinOp.and IntKind.i64 3 1 = 1 := by decide +kernel
  have a2 : bits BinOp.and IntKind.i64 3 2 = 2 := by decide +kernel
  have a12 : bits BinOp.and IntKind.i64 3 12 = 0 := by decide +kernel
  have a16 : bits BinOp.and IntKind.i64 3 16 = 0 := by decide +kernel
  have a32 : bits BinOp.and IntKind.i64 3 32 = 0 := by decide +kernel
  have le0 : (enc k.toNat).length ≤ 9 := enc_length k.toNat (by have := hf.k1; omega)
  have le1 : (enc t.toNat).length ≤ 9 := enc_length t.toNat (by have := hf.t1; omega)
  have N0 : Hid (∀ W, Calls Try.prog 26 #[.slice none 0 0, .int .i64 k] W (NB W (([] : List UInt8) ++ enc k.toNat))) := fun W => num_calls _ [] k hf.k1 W (holds_nil W) (by decide)
  have N1 : Hid (∀ W v, Lib.HoldsBytes W v (([] : List UInt8) ++ enc k.toNat) → Calls Try.prog 26 #[v, .int .i64 t] W (NB W ((([] : List UInt8) ++ enc k.toNat) ++ enc t.toNat))) := fun W v hv => num_calls v _ t hf.t1 W hv (by simp only [List.length_append, List.length_nil]; omega)
  have le2 : (enc n.toNat).length ≤ 9 := enc_length n.toNat (by have := hf.n1; omega)
  have N2 : Hid (∀ W v, Lib.HoldsBytes W v ((([] : List UInt8) ++ enc k.toNat) ++ enc t.toNat) → Calls Try.prog 26 #[v, .int .i64 n] W (NB W (((([] : List UInt8) ++ enc k.toNat) ++ enc t.toNat) ++ enc n.toNat))) := fun W v hv => num_calls v _ n hf.n1 W hv (by simp only [List.length_append, List.length_nil]; omega)
  have le3 : (enc d.toNat).length ≤ 9 := enc_length d.toNat (by have := hf.d1; omega)
  have N3 : Hid (∀ W v, Lib.HoldsBytes W v (((([] : List UInt8) ++ enc k.toNat) ++ enc t.toNat) ++ enc n.toNat) → Calls Try.prog 26 #[v, .int .i64 d] W (NB W ((((([] : List UInt8) ++ enc k.toNat) ++ enc t.toNat) ++ enc n.toNat) ++ enc d.toNat))) := fun W v hv => num_calls v _ d hf.d1 W hv (by simp only [List.length_append, List.length_nil]; omega)
  have HE : Hid (∀ v w', Lib.HoldsBytes w' v ((((([] : List UInt8) ++ enc k.toNat) ++ enc t.toNat) ++ enc n.toNat) ++ enc d.toNat) → Below w.heap.size w w' → EnP ((((([] : List UInt8) ++ enc k.toNat) ++ enc t.toNat) ++ enc n.toNat) ++ enc d.toNat) w (.returned (.tuple #[v, .int .i64 0])) w') := fun v w' h1 h2 => enp h1 h2
  generalize EnP ((((([] : List UInt8) ++ enc k.toNat) ++ enc t.toNat) ++ enc n.toNat) ++ enc d.toNat) w = Q at HE ⊢
  generalize ((((([] : List UInt8) ++ enc k.toNat) ++ enc t.toNat) ++ enc n.toNat) ++ enc d.toNat) = L3 at N3 HE
  generalize (((([] : List UInt8) ++ enc k.toNat) ++ enc t.toNat) ++ enc n.toNat) = L2 at N2 N3
  generalize ((([] : List UInt8) ++ enc k.toNat) ++ enc t.toNat) = L1 at N1 N2
  generalize (([] : List UInt8) ++ enc k.toNat) = L0 at N0 N1
  have HX0 : Hid (At13 (w.alloc (.cells #[.int .i64 k, .int .i64 t, .int .i64 n, .int .i64 d, .string s, .int .i64 vk, .int .i64 vx, .int .u64 vb, .string vs, .slice la ll lc, .int .i64 f, .int .u64 (c : Int), .int .i64 m] 39)) w.heap.size (.int .i64 k) (.int .i64 t) (.int .i64 n) (.int .i64 d) (.string s) (.int .i64 vk) (.int .i64 vx) (.int .u64 vb) (.string vs) (.slice la ll lc) (.int .i64 f) (.int .u64 (c : Int)) (.int .i64 m)) := At13.box w (.int .i64 k) (.int .i64 t) (.int .i64 n) (.int .i64 d) (.string s) (.int .i64 vk) (.int .i64 vx) (.int .u64 vb) (.string vs) (.slice la ll lc) (.int .i64 f) (.int .u64 (c : Int)) (.int .i64 m)
  have HB0 : Hid (Below w.heap.size w (w.alloc (.cells #[.int .i64 k, .int .i64 t, .int .i64 n, .int .i64 d, .string s, .int .i64 vk, .int .i64 vx, .int .u64 vb, .string vs, .slice la ll lc, .int .i64 f, .int .u64 (c : Int), .int .i64 m] 39))) := bel1 _ _
  clear h hmay hf hp hk le0 le1 le2 le3 
  go_enter Try.func14, Try.ntmps14
  go_wp2_with fail
  refine Calls.mono (CK.out _ ?_) ?_
  · exact bel1 _ _
  rintro e w1 ⟨rfl, hb⟩
  have HB1 : Hid (Below w.heap.size w w1) := bel2 HB0.out hb
  have HX1 : Hid (At13 w1 w.heap.size (.int .i64 k) (.int .i64 t) (.int .i64 n) (.int .i64 d) (.string s) (.int .i64 vk) (.int .i64 vx) (.int .u64 vb) (.string vs) (.slice la ll lc) (.int .i64 f) (.int .u64 (c : Int)) (.int .i64 m)) := HX0.out.below hb
  clear hb
  obtain ⟨x0, x1, x2, x3, x4, x5, x6, x7, x8, x9, x10, x11, x12⟩ := HX1.out
  go_wp2_with fail
  refine (PC.out _).mono ?_
  rintro e w2 ⟨rfl, e1⟩
  have e2 := e1.symm
  subst e2
  clear e1
  go_wp2_with fail
  go_region_held3 (fun w' => w'.cell? ⟨w.heap.size, 0, none⟩ = some (.int .i64 k) ∧ w'.cell? ⟨w.heap.size, 1, none⟩ = some (.int .i64 t)) (go_keep) (first
    | (go_at_call_of 26 (Value.int IntKind.i64 k); refine (N0.out _).mono ?_; rintro e w3 ⟨g3, q3, rfl, h3, hb3⟩; have H3 : Hid (Lib.HoldsBytes w3 (.slice (some ⟨g3, 0, none⟩) L0.length L0.length) L0) := h3; have B3 : Hid (Below w.heap.size w w3) := (by first | exact bel2 HB1.out hb3 | exact bel2 HB1.out.drew hb3); have y0 := cellB x0 (show Below w1.heap.size w1 w3 from (by first | exact hb3 | exact bel2 (Below.refl _ w1).drew hb3)); have y1 := cellB x1 (show Below w1.heap.size w1 w3 from (by first | exact hb3 | exact bel2 (Below.refl _ w1).drew hb3)); have HX3 : Hid (At13 w3 w.heap.size (.int .i64 k) (.int .i64 t) (.int .i64 n) (.int .i64 d) (.string s) (.int .i64 vk) (.int .i64 vx) (.int .u64 vb) (.string vs) (.slice la ll lc) (.int .i64 f) (.int .u64 (c : Int)) (.int .i64 m)) := HX1.out.below (by first | exact hb3 | exact bel2 (Below.refl _ w1).drew hb3); clear hb3 h3 q3)
    | (go_at_call_of 26 (Value.int IntKind.i64 t); refine (N1.out _ _ H3.out).mono ?_; rintro e w4 ⟨g4, q4, rfl, h4, hb4⟩; have H4 : Hid (Lib.HoldsBytes w4 (.slice (some ⟨g4, 0, none⟩) L1.length L1.length) L1) := h4; have B4 : Hid (Below w.heap.size w w4) := bel2 B3.out hb4; have z0 := cellB y0 hb4; have z1 := cellB y1 hb4; have HX4 : Hid (At13 w4 w.heap.size (.int .i64 k) (.int .i64 t) (.int .i64 n) (.int .i64 d) (.string s) (.int .i64 vk) (.int .i64 vx) (.int .u64 vb) (.string vs) (.slice la ll lc) (.int .i64 f) (.int .u64 (c : Int)) (.int .i64 m)) := HX3.out.below hb4; clear hb4 h4 q4))
  clear x0 x1 x2 x3 x4 x5 x6 x7 x8 x9 x10 x11 x12 y0 y1 z0 z1
  obtain ⟨x0, x1, x2, x3, x4, x5, x6, x7, x8, x9, x10, x11, x12⟩ := HX4.out
  go_wp2_with fail
  refine (N2.out _ _ H4.out).mono ?_
  rintro e w5 ⟨g5, q5, rfl, h5, hb5⟩
  have H5 : Hid (Lib.HoldsBytes w5 (.slice (some ⟨g5, 0, none⟩) L2.length L2.length) L2) := h5
  clear q5
  have B5 : Hid (Below w.heap.size w w5) := bel2 B4.out hb5
  have HX5 : Hid (At13 w5 w.heap.size (.int .i64 k) (.int .i64 t) (.int .i64 n) (.int .i64 d) (.string s) (.int .i64 vk) (.int .i64 vx) (.int .u64 vb) (.string vs) (.slice la ll lc) (.int .i64 f) (.int .u64 (c : Int)) (.int .i64 m)) := HX4.out.below hb5
  clear hb5 h5 x0 x1 x2 x3 x4 x5 x6 x7 x8 x9 x10 x11 x12
  obtain ⟨x0, x1, x2, x3, x4, x5, x6, x7, x8, x9, x10, x11, x12⟩ := HX5.out
  go_wp2_with fail
  refine (N3.out _ _ H5.out).mono ?_
  rintro e w6 ⟨g6, q6, rfl, h6, hb6⟩
  have H6 : Hid (Lib.HoldsBytes w6 (.slice (some ⟨g6, 0, none⟩) L3.length L3.length) L3) := h6
  clear q6
  have B6 : Hid (Below w.heap.size w w6) := bel2 B5.out hb6
  have HX6 : Hid (At13 w6 w.heap.size (.int .i64 k) (.int .i64 t) (.int .i64 n) (.int .i64 d) (.string s) (.int .i64 vk) (.int .i64 vx) (.int .u64 vb) (.string vs) (.slice la ll lc) (.int .i64 f) (.int .u64 (c : Int)) (.int .i64 m)) := HX5.out.below hb6
  clear hb6 h6 x0 x1 x2 x3 x4 x5 x6 x7 x8 x9 x10 x11 x12
  go_wp2_with fail
  exact HE.out _ _ H6.out B6.out
set_option maxHeartbeats 2000000 in
set_option maxRecDepth 100000 in
theorem encode_2 (nn : Nat) (tv : Tv) (k t n d : Int) (s : ByteArray) (vk vx vb : Int) (vs : ByteArray) (la : Option Addr) (ll lc : Nat) (f : Int) (c : Nat) (m : Int) (hf : EFit k t n d s) (hp : PFit f c m) (hk : pt k = 2) (w : World) (h : Is w (nn + 1) (.agg #[.int .i64 vk, .int .i64 vx, .int .u64 vb, .string vs, .slice la ll lc]) tv) (hmay : MayE (nn + 1) ⟨k, t, n, d, s, tv, f, c, m⟩) :
    Calls Try.prog 14 #[(.agg #[.int .i64 k, .int .i64 t, .int .i64 n, .int .i64 d, .string s, .int .i64 vk, .int .i64 vx, .int .u64 vb, .string vs, .slice la ll lc, .int .i64 f, .int .u64 (c : Int), .int .i64 m])] w (EnP (((([] : List UInt8) ++ enc k.toNat) ++ enc t.toNat) ++ enc d.toNat) w) := by
  have CK : Hid (∀ W, Below w.heap.size w W → Calls Try.prog 10 #[(.agg #[.int .i64 k, .int .i64 t, .int .i64 n, .int .i64 d, .string s, .int .i64 vk, .int .i64 vx, .int .u64 vb, .string vs, .slice la ll lc, .int .i64 f, .int .u64 (c : Int), .int .i64 m])] W fun e w' => e = .returned (.int .i64 0) ∧ Below W.heap.size W w') := fun W hB => (evcheck_calls nn tv k t n d s vk vx vb vs la ll lc f c m hp.c1 W (h.below hB)).mono fun e w' ⟨r, h1, h2, _, h4⟩ => ⟨by rw [h1, h2 hmay], h4⟩
  have PC : Hid (∀ W, Calls Try.prog 25 #[.int .i64 k] W fun e w' => e = .returned (.int .i64 2) ∧ w' = W) := fun W => by have := parts_calls k W; rw [hk] at this; exact this
  have a1 : bits BinOp.and IntKind.i64 2 1 = 0 := by decide +kernel
  have a2 : bits BinOp.and IntKind.i64 2 2 = 2 := by decide +kernel
  have a12 : bits BinOp.and IntKind.i64 2 12 = 0 := by decide +kernel
  have a16 : bits BinOp.and IntKind.i64 2 16 = 0 := by decide +kernel
  have a32 : bits BinOp.and IntKind.i64 2 32 = 0 := by decide +kernel
  have le0 : (enc k.toNat).length ≤ 9 := enc_length k.toNat (by have := hf.k1; omega)
  have le1 : (enc t.toNat).length ≤ 9 := enc_length t.toNat (by have := hf.t1; omega)
  have N0 : Hid (∀ W, Calls Try.prog 26 #[.slice none 0 0, .int .i64 k] W (NB W (([] : List UInt8) ++ enc k.toNat))) := fun W => num_calls _ [] k hf.k1 W (holds_nil W) (by decide)
  have N1 : Hid (∀ W v, Lib.HoldsBytes W v (([] : List UInt8) ++ enc k.toNat) → Calls Try.prog 26 #[v, .int .i64 t] W (NB W ((([] : List UInt8) ++ enc k.toNat) ++ enc t.toNat))) := fun W v hv => num_calls v _ t hf.t1 W hv (by simp only [List.length_append, List.length_nil]; omega)
  have le2 : (enc d.toNat).length ≤ 9 := enc_length d.toNat (by have := hf.d1; omega)
  have N2 : Hid (∀ W v, Lib.HoldsBytes W v ((([] : List UInt8) ++ enc k.toNat) ++ enc t.toNat) → Calls Try.prog 26 #[v, .int .i64 d] W (NB W (((([] : List UInt8) ++ enc k.toNat) ++ enc t.toNat) ++ enc d.toNat))) := fun W v hv => num_calls v _ d hf.d1 W hv (by simp only [List.length_append, List.length_nil]; omega)
  have HE : Hid (∀ v w', Lib.HoldsBytes w' v (((([] : List UInt8) ++ enc k.toNat) ++ enc t.toNat) ++ enc d.toNat) → Below w.heap.size w w' → EnP (((([] : List UInt8) ++ enc k.toNat) ++ enc t.toNat) ++ enc d.toNat) w (.returned (.tuple #[v, .int .i64 0])) w') := fun v w' h1 h2 => enp h1 h2
  generalize EnP (((([] : List UInt8) ++ enc k.toNat) ++ enc t.toNat) ++ enc d.toNat) w = Q at HE ⊢
  generalize (((([] : List UInt8) ++ enc k.toNat) ++ enc t.toNat) ++ enc d.toNat) = L2 at N2 HE
  generalize ((([] : List UInt8) ++ enc k.toNat) ++ enc t.toNat) = L1 at N1 N2
  generalize (([] : List UInt8) ++ enc k.toNat) = L0 at N0 N1
  have HX0 : Hid (At13 (w.alloc (.cells #[.int .i64 k, .int .i64 t, .int .i64 n, .int .i64 d, .string s, .int .i64 vk, .int .i64 vx, .int .u64 vb, .string vs, .slice la ll lc, .int .i64 f, .int .u64 (c : Int), .int .i64 m] 39)) w.heap.size (.int .i64 k) (.int .i64 t) (.int .i64 n) (.int .i64 d) (.string s) (.int .i64 vk) (.int .i64 vx) (.int .u64 vb) (.string vs) (.slice la ll lc) (.int .i64 f) (.int .u64 (c : Int)) (.int .i64 m)) := At13.box w (.int .i64 k) (.int .i64 t) (.int .i64 n) (.int .i64 d) (.string s) (.int .i64 vk) (.int .i64 vx) (.int .u64 vb) (.string vs) (.slice la ll lc) (.int .i64 f) (.int .u64 (c : Int)) (.int .i64 m)
  have HB0 : Hid (Below w.heap.size w (w.alloc (.cells #[.int .i64 k, .int .i64 t, .int .i64 n, .int .i64 d, .string s, .int .i64 vk, .int .i64 vx, .int .u64 vb, .string vs, .slice la ll lc, .int .i64 f, .int .u64 (c : Int), .int .i64 m] 39))) := bel1 _ _
  clear h hmay hf hp hk le0 le1 le2 
  go_enter Try.func14, Try.ntmps14
  go_wp2_with fail
  refine Calls.mono (CK.out _ ?_) ?_
  · exact bel1 _ _
  rintro e w1 ⟨rfl, hb⟩
  have HB1 : Hid (Below w.heap.size w w1) := bel2 HB0.out hb
  have HX1 : Hid (At13 w1 w.heap.size (.int .i64 k) (.int .i64 t) (.int .i64 n) (.int .i64 d) (.string s) (.int .i64 vk) (.int .i64 vx) (.int .u64 vb) (.string vs) (.slice la ll lc) (.int .i64 f) (.int .u64 (c : Int)) (.int .i64 m)) := HX0.out.below hb
  clear hb
  obtain ⟨x0, x1, x2, x3, x4, x5, x6, x7, x8, x9, x10, x11, x12⟩ := HX1.out
  go_wp2_with fail
  refine (PC.out _).mono ?_
  rintro e w2 ⟨rfl, e1⟩
  have e2 := e1.symm
  subst e2
  clear e1
  go_wp2_with fail
  go_region_held3 (fun w' => w'.cell? ⟨w.heap.size, 0, none⟩ = some (.int .i64 k) ∧ w'.cell? ⟨w.heap.size, 1, none⟩ = some (.int .i64 t)) (go_keep) (first
    | (go_at_call_of 26 (Value.int IntKind.i64 k); refine (N0.out _).mono ?_; rintro e w3 ⟨g3, q3, rfl, h3, hb3⟩; have H3 : Hid (Lib.HoldsBytes w3 (.slice (some ⟨g3, 0, none⟩) L0.length L0.length) L0) := h3; have B3 : Hid (Below w.heap.size w w3) := (by first | exact bel2 HB1.out hb3 | exact bel2 HB1.out.drew hb3); have y0 := cellB x0 (show Below w1.heap.size w1 w3 from (by first | exact hb3 | exact bel2 (Below.refl _ w1).drew hb3)); have y1 := cellB x1 (show Below w1.heap.size w1 w3 from (by first | exact hb3 | exact bel2 (Below.refl _ w1).drew hb3)); have HX3 : Hid (At13 w3 w.heap.size (.int .i64 k) (.int .i64 t) (.int .i64 n) (.int .i64 d) (.string s) (.int .i64 vk) (.int .i64 vx) (.int .u64 vb) (.string vs) (.slice la ll lc) (.int .i64 f) (.int .u64 (c : Int)) (.int .i64 m)) := HX1.out.below (by first | exact hb3 | exact bel2 (Below.refl _ w1).drew hb3); clear hb3 h3 q3)
    | (go_at_call_of 26 (Value.int IntKind.i64 t); refine (N1.out _ _ H3.out).mono ?_; rintro e w4 ⟨g4, q4, rfl, h4, hb4⟩; have H4 : Hid (Lib.HoldsBytes w4 (.slice (some ⟨g4, 0, none⟩) L1.length L1.length) L1) := h4; have B4 : Hid (Below w.heap.size w w4) := bel2 B3.out hb4; have z0 := cellB y0 hb4; have z1 := cellB y1 hb4; have HX4 : Hid (At13 w4 w.heap.size (.int .i64 k) (.int .i64 t) (.int .i64 n) (.int .i64 d) (.string s) (.int .i64 vk) (.int .i64 vx) (.int .u64 vb) (.string vs) (.slice la ll lc) (.int .i64 f) (.int .u64 (c : Int)) (.int .i64 m)) := HX3.out.below hb4; clear hb4 h4 q4))
  clear x0 x1 x2 x3 x4 x5 x6 x7 x8 x9 x10 x11 x12 y0 y1 z0 z1
  obtain ⟨x0, x1, x2, x3, x4, x5, x6, x7, x8, x9, x10, x11, x12⟩ := HX4.out
  go_wp2_with fail
  refine (N2.out _ _ H4.out).mono ?_
  rintro e w5 ⟨g5, q5, rfl, h5, hb5⟩
  have H5 : Hid (Lib.HoldsBytes w5 (.slice (some ⟨g5, 0, none⟩) L2.length L2.length) L2) := h5
  clear q5
  have B5 : Hid (Below w.heap.size w w5) := bel2 B4.out hb5
  have HX5 : Hid (At13 w5 w.heap.size (.int .i64 k) (.int .i64 t) (.int .i64 n) (.int .i64 d) (.string s) (.int .i64 vk) (.int .i64 vx) (.int .u64 vb) (.string vs) (.slice la ll lc) (.int .i64 f) (.int .u64 (c : Int)) (.int .i64 m)) := HX4.out.below hb5
  clear hb5 h5 x0 x1 x2 x3 x4 x5 x6 x7 x8 x9 x10 x11 x12
  go_wp2_with fail
  exact HE.out _ _ H5.out B5.out
set_option maxHeartbeats 2000000 in
set_option maxRecDepth 100000 in
theorem encode_6 (nn : Nat) (tv : Tv) (k t n d : Int) (s : ByteArray) (vk vx vb : Int) (vs : ByteArray) (la : Option Addr) (ll lc : Nat) (f : Int) (c : Nat) (m : Int) (hf : EFit k t n d s) (hp : PFit f c m) (hk : pt k = 6) (hs : s.size ≤ 200) (w : World) (h : Is w (nn + 1) (.agg #[.int .i64 vk, .int .i64 vx, .int .u64 vb, .string vs, .slice la ll lc]) tv) (hmay : MayE (nn + 1) ⟨k, t, n, d, s, tv, f, c, m⟩) :
    Calls Try.prog 14 #[(.agg #[.int .i64 k, .int .i64 t, .int .i64 n, .int .i64 d, .string s, .int .i64 vk, .int .i64 vx, .int .u64 vb, .string vs, .slice la ll lc, .int .i64 f, .int .u64 (c : Int), .int .i64 m])] w (EnP ((((([] : List UInt8) ++ enc k.toNat) ++ enc t.toNat) ++ enc d.toNat) ++ enc s.size ++ s.data.toList) w) := by
  have CK : Hid (∀ W, Below w.heap.size w W → Calls Try.prog 10 #[(.agg #[.int .i64 k, .int .i64 t, .int .i64 n, .int .i64 d, .string s, .int .i64 vk, .int .i64 vx, .int .u64 vb, .string vs, .slice la ll lc, .int .i64 f, .int .u64 (c : Int), .int .i64 m])] W fun e w' => e = .returned (.int .i64 0) ∧ Below W.heap.size W w') := fun W hB => (evcheck_calls nn tv k t n d s vk vx vb vs la ll lc f c m hp.c1 W (h.below hB)).mono fun e w' ⟨r, h1, h2, _, h4⟩ => ⟨by rw [h1, h2 hmay], h4⟩
  have PC : Hid (∀ W, Calls Try.prog 25 #[.int .i64 k] W fun e w' => e = .returned (.int .i64 6) ∧ w' = W) := fun W => by have := parts_calls k W; rw [hk] at this; exact this
  have a1 : bits BinOp.and IntKind.i64 6 1 = 0 := by decide +kernel
  have a2 : bits BinOp.and IntKind.i64 6 2 = 2 := by decide +kernel
  have a12 : bits BinOp.and IntKind.i64 6 12 = 4 := by decide +kernel
  have a16 : bits BinOp.and IntKind.i64 6 16 = 0 := by decide +kernel
  have a32 : bits BinOp.and IntKind.i64 6 32 = 0 := by decide +kernel
  have le0 : (enc k.toNat).length ≤ 9 := enc_length k.toNat (by have := hf.k1; omega)
  have le1 : (enc t.toNat).length ≤ 9 := enc_length t.toNat (by have := hf.t1; omega)
  have N0 : Hid (∀ W, Calls Try.prog 26 #[.slice none 0 0, .int .i64 k] W (NB W (([] : List UInt8) ++ enc k.toNat))) := fun W => num_calls _ [] k hf.k1 W (holds_nil W) (by decide)
  have N1 : Hid (∀ W v, Lib.HoldsBytes W v (([] : List UInt8) ++ enc k.toNat) → Calls Try.prog 26 #[v, .int .i64 t] W (NB W ((([] : List UInt8) ++ enc k.toNat) ++ enc t.toNat))) := fun W v hv => num_calls v _ t hf.t1 W hv (by simp only [List.length_append, List.length_nil]; omega)
  have le2 : (enc d.toNat).length ≤ 9 := enc_length d.toNat (by have := hf.d1; omega)
  have N2 : Hid (∀ W v, Lib.HoldsBytes W v ((([] : List UInt8) ++ enc k.toNat) ++ enc t.toNat) → Calls Try.prog 26 #[v, .int .i64 d] W (NB W (((([] : List UInt8) ++ enc k.toNat) ++ enc t.toNat) ++ enc d.toNat))) := fun W v hv => num_calls v _ d hf.d1 W hv (by simp only [List.length_append, List.length_nil]; omega)
  have le3 : (enc s.size).length ≤ 9 := enc_length s.size (by omega)
  have ls3 := str_len s
  have N3 : Hid (∀ W v, Lib.HoldsBytes W v (((([] : List UInt8) ++ enc k.toNat) ++ enc t.toNat) ++ enc d.toNat) → Calls Try.prog 27 #[v, .string s] W (NB W ((((([] : List UInt8) ++ enc k.toNat) ++ enc t.toNat) ++ enc d.toNat) ++ enc s.size ++ s.data.toList))) := fun W v hv => text_calls v _ s W hv (by omega) (by simp only [List.length_append, List.length_nil]; omega)
  have HE : Hid (∀ v w', Lib.HoldsBytes w' v ((((([] : List UInt8) ++ enc k.toNat) ++ enc t.toNat) ++ enc d.toNat) ++ enc s.size ++ s.data.toList) → Below w.heap.size w w' → EnP ((((([] : List UInt8) ++ enc k.toNat) ++ enc t.toNat) ++ enc d.toNat) ++ enc s.size ++ s.data.toList) w (.returned (.tuple #[v, .int .i64 0])) w') := fun v w' h1 h2 => enp h1 h2
  generalize EnP ((((([] : List UInt8) ++ enc k.toNat) ++ enc t.toNat) ++ enc d.toNat) ++ enc s.size ++ s.data.toList) w = Q at HE ⊢
  generalize ((((([] : List UInt8) ++ enc k.toNat) ++ enc t.toNat) ++ enc d.toNat) ++ enc s.size ++ s.data.toList) = L3 at N3 HE
  generalize (((([] : List UInt8) ++ enc k.toNat) ++ enc t.toNat) ++ enc d.toNat) = L2 at N2 N3
  generalize ((([] : List UInt8) ++ enc k.toNat) ++ enc t.toNat) = L1 at N1 N2
  generalize (([] : List UInt8) ++ enc k.toNat) = L0 at N0 N1
  have HX0 : Hid (At13 (w.alloc (.cells #[.int .i64 k, .int .i64 t, .int .i64 n, .int .i64 d, .string s, .int .i64 vk, .int .i64 vx, .int .u64 vb, .string vs, .slice la ll lc, .int .i64 f, .int .u64 (c : Int), .int .i64 m] 39)) w.heap.size (.int .i64 k) (.int .i64 t) (.int .i64 n) (.int .i64 d) (.string s) (.int .i64 vk) (.int .i64 vx) (.int .u64 vb) (.string vs) (.slice la ll lc) (.int .i64 f) (.int .u64 (c : Int)) (.int .i64 m)) := At13.box w (.int .i64 k) (.int .i64 t) (.int .i64 n) (.int .i64 d) (.string s) (.int .i64 vk) (.int .i64 vx) (.int .u64 vb) (.string vs) (.slice la ll lc) (.int .i64 f) (.int .u64 (c : Int)) (.int .i64 m)
  have HB0 : Hid (Below w.heap.size w (w.alloc (.cells #[.int .i64 k, .int .i64 t, .int .i64 n, .int .i64 d, .string s, .int .i64 vk, .int .i64 vx, .int .u64 vb, .string vs, .slice la ll lc, .int .i64 f, .int .u64 (c : Int), .int .i64 m] 39))) := bel1 _ _
  clear h hmay hf hp hk hs le0 le1 le2 le3 ls3
  go_enter Try.func14, Try.ntmps14
  go_wp2_with fail
  refine Calls.mono (CK.out _ ?_) ?_
  · exact bel1 _ _
  rintro e w1 ⟨rfl, hb⟩
  have HB1 : Hid (Below w.heap.size w w1) := bel2 HB0.out hb
  have HX1 : Hid (At13 w1 w.heap.size (.int .i64 k) (.int .i64 t) (.int .i64 n) (.int .i64 d) (.string s) (.int .i64 vk) (.int .i64 vx) (.int .u64 vb) (.string vs) (.slice la ll lc) (.int .i64 f) (.int .u64 (c : Int)) (.int .i64 m)) := HX0.out.below hb
  clear hb
  obtain ⟨x0, x1, x2, x3, x4, x5, x6, x7, x8, x9, x10, x11, x12⟩ := HX1.out
  go_wp2_with fail
  refine (PC.out _).mono ?_
  rintro e w2 ⟨rfl, e1⟩
  have e2 := e1.symm
  subst e2
  clear e1
  go_wp2_with fail
  go_region_held3 (fun w' => w'.cell? ⟨w.heap.size, 0, none⟩ = some (.int .i64 k) ∧ w'.cell? ⟨w.heap.size, 1, none⟩ = some (.int .i64 t)) (go_keep) (first
    | (go_at_call_of 26 (Value.int IntKind.i64 k); refine (N0.out _).mono ?_; rintro e w3 ⟨g3, q3, rfl, h3, hb3⟩; have H3 : Hid (Lib.HoldsBytes w3 (.slice (some ⟨g3, 0, none⟩) L0.length L0.length) L0) := h3; have B3 : Hid (Below w.heap.size w w3) := (by first | exact bel2 HB1.out hb3 | exact bel2 HB1.out.drew hb3); have y0 := cellB x0 (show Below w1.heap.size w1 w3 from (by first | exact hb3 | exact bel2 (Below.refl _ w1).drew hb3)); have y1 := cellB x1 (show Below w1.heap.size w1 w3 from (by first | exact hb3 | exact bel2 (Below.refl _ w1).drew hb3)); have HX3 : Hid (At13 w3 w.heap.size (.int .i64 k) (.int .i64 t) (.int .i64 n) (.int .i64 d) (.string s) (.int .i64 vk) (.int .i64 vx) (.int .u64 vb) (.string vs) (.slice la ll lc) (.int .i64 f) (.int .u64 (c : Int)) (.int .i64 m)) := HX1.out.below (by first | exact hb3 | exact bel2 (Below.refl _ w1).drew hb3); clear hb3 h3 q3)
    | (go_at_call_of 26 (Value.int IntKind.i64 t); refine (N1.out _ _ H3.out).mono ?_; rintro e w4 ⟨g4, q4, rfl, h4, hb4⟩; have H4 : Hid (Lib.HoldsBytes w4 (.slice (some ⟨g4, 0, none⟩) L1.length L1.length) L1) := h4; have B4 : Hid (Below w.heap.size w w4) := bel2 B3.out hb4; have z0 := cellB y0 hb4; have z1 := cellB y1 hb4; have HX4 : Hid (At13 w4 w.heap.size (.int .i64 k) (.int .i64 t) (.int .i64 n) (.int .i64 d) (.string s) (.int .i64 vk) (.int .i64 vx) (.int .u64 vb) (.string vs) (.slice la ll lc) (.int .i64 f) (.int .u64 (c : Int)) (.int .i64 m)) := HX3.out.below hb4; clear hb4 h4 q4))
  clear x0 x1 x2 x3 x4 x5 x6 x7 x8 x9 x10 x11 x12 y0 y1 z0 z1
  obtain ⟨x0, x1, x2, x3, x4, x5, x6, x7, x8, x9, x10, x11, x12⟩ := HX4.out
  go_wp2_with fail
  refine (N2.out _ _ H4.out).mono ?_
  rintro e w5 ⟨g5, q5, rfl, h5, hb5⟩
  have H5 : Hid (Lib.HoldsBytes w5 (.slice (some ⟨g5, 0, none⟩) L2.length L2.length) L2) := h5
  clear q5
  have B5 : Hid (Below w.heap.size w w5) := bel2 B4.out hb5
  have HX5 : Hid (At13 w5 w.heap.size (.int .i64 k) (.int .i64 t) (.int .i64 n) (.int .i64 d) (.string s) (.int .i64 vk) (.int .i64 vx) (.int .u64 vb) (.string vs) (.slice la ll lc) (.int .i64 f) (.int .u64 (c : Int)) (.int .i64 m)) := HX4.out.below hb5
  clear hb5 h5 x0 x1 x2 x3 x4 x5 x6 x7 x8 x9 x10 x11 x12
  obtain ⟨x0, x1, x2, x3, x4, x5, x6, x7, x8, x9, x10, x11, x12⟩ := HX5.out
  go_wp2_with fail
  refine (N3.out _ _ H5.out).mono ?_
  rintro e w6 ⟨g6, q6, rfl, h6, hb6⟩
  have H6 : Hid (Lib.HoldsBytes w6 (.slice (some ⟨g6, 0, none⟩) L3.length L3.length) L3) := h6
  clear q6
  have B6 : Hid (Below w.heap.size w w6) := bel2 B5.out hb6
  have HX6 : Hid (At13 w6 w.heap.size (.int .i64 k) (.int .i64 t) (.int .i64 n) (.int .i64 d) (.string s) (.int .i64 vk) (.int .i64 vx) (.int .u64 vb) (.string vs) (.slice la ll lc) (.int .i64 f) (.int .u64 (c : Int)) (.int .i64 m)) := HX5.out.below hb6
  clear hb6 h6 x0 x1 x2 x3 x4 x5 x6 x7 x8 x9 x10 x11 x12
  go_wp2_with fail
  exact HE.out _ _ H6.out B6.out
set_option maxHeartbeats 2000000 in
set_option maxRecDepth 100000 in
theorem encode_4 (nn : Nat) (tv : Tv) (k t n d : Int) (s : ByteArray) (vk vx vb : Int) (vs : ByteArray) (la : Option Addr) (ll lc : Nat) (f : Int) (c : Nat) (m : Int) (hf : EFit k t n d s) (hp : PFit f c m) (hk : pt k = 4) (hs : s.size ≤ 200) (w : World) (h : Is w (nn + 1) (.agg #[.int .i64 vk, .int .i64 vx, .int .u64 vb, .string vs, .slice la ll lc]) tv) (hmay : MayE (nn + 1) ⟨k, t, n, d, s, tv, f, c, m⟩) :
    Calls Try.prog 14 #[(.agg #[.int .i64 k, .int .i64 t, .int .i64 n, .int .i64 d, .string s, .int .i64 vk, .int .i64 vx, .int .u64 vb, .string vs, .slice la ll lc, .int .i64 f, .int .u64 (c : Int), .int .i64 m])] w (EnP (((([] : List UInt8) ++ enc k.toNat) ++ enc t.toNat) ++ enc s.size ++ s.data.toList) w) := by
  have CK : Hid (∀ W, Below w.heap.size w W → Calls Try.prog 10 #[(.agg #[.int .i64 k, .int .i64 t, .int .i64 n, .int .i64 d, .string s, .int .i64 vk, .int .i64 vx, .int .u64 vb, .string vs, .slice la ll lc, .int .i64 f, .int .u64 (c : Int), .int .i64 m])] W fun e w' => e = .returned (.int .i64 0) ∧ Below W.heap.size W w') := fun W hB => (evcheck_calls nn tv k t n d s vk vx vb vs la ll lc f c m hp.c1 W (h.below hB)).mono fun e w' ⟨r, h1, h2, _, h4⟩ => ⟨by rw [h1, h2 hmay], h4⟩
  have PC : Hid (∀ W, Calls Try.prog 25 #[.int .i64 k] W fun e w' => e = .returned (.int .i64 4) ∧ w' = W) := fun W => by have := parts_calls k W; rw [hk] at this; exact this
  have a1 : bits BinOp.and IntKind.i64 4 1 = 0 := by decide +kernel
  have a2 : bits BinOp.and IntKind.i64 4 2 = 0 := by decide +kernel
  have a12 : bits BinOp.and IntKind.i64 4 12 = 4 := by decide +kernel
  have a16 : bits BinOp.and IntKind.i64 4 16 = 0 := by decide +kernel
  have a32 : bits BinOp.and IntKind.i64 4 32 = 0 := by decide +kernel
  have le0 : (enc k.toNat).length ≤ 9 := enc_length k.toNat (by have := hf.k1; omega)
  have le1 : (enc t.toNat).length ≤ 9 := enc_length t.toNat (by have := hf.t1; omega)
  have N0 : Hid (∀ W, Calls Try.prog 26 #[.slice none 0 0, .int .i64 k] W (NB W (([] : List UInt8) ++ enc k.toNat))) := fun W => num_calls _ [] k hf.k1 W (holds_nil W) (by decide)
  have N1 : Hid (∀ W v, Lib.HoldsBytes W v (([] : List UInt8) ++ enc k.toNat) → Calls Try.prog 26 #[v, .int .i64 t] W (NB W ((([] : List UInt8) ++ enc k.toNat) ++ enc t.toNat))) := fun W v hv => num_calls v _ t hf.t1 W hv (by simp only [List.length_append, List.length_nil]; omega)
  have le2 : (enc s.size).length ≤ 9 := enc_length s.size (by omega)
  have ls2 := str_len s
  have N2 : Hid (∀ W v, Lib.HoldsBytes W v ((([] : List UInt8) ++ enc k.toNat) ++ enc t.toNat) → Calls Try.prog 27 #[v, .string s] W (NB W (((([] : List UInt8) ++ enc k.toNat) ++ enc t.toNat) ++ enc s.size ++ s.data.toList))) := fun W v hv => text_calls v _ s W hv (by omega) (by simp only [List.length_append, List.length_nil]; omega)
  have HE : Hid (∀ v w', Lib.HoldsBytes w' v (((([] : List UInt8) ++ enc k.toNat) ++ enc t.toNat) ++ enc s.size ++ s.data.toList) → Below w.heap.size w w' → EnP (((([] : List UInt8) ++ enc k.toNat) ++ enc t.toNat) ++ enc s.size ++ s.data.toList) w (.returned (.tuple #[v, .int .i64 0])) w') := fun v w' h1 h2 => enp h1 h2
  generalize EnP (((([] : List UInt8) ++ enc k.toNat) ++ enc t.toNat) ++ enc s.size ++ s.data.toList) w = Q at HE ⊢
  generalize (((([] : List UInt8) ++ enc k.toNat) ++ enc t.toNat) ++ enc s.size ++ s.data.toList) = L2 at N2 HE
  generalize ((([] : List UInt8) ++ enc k.toNat) ++ enc t.toNat) = L1 at N1 N2
  generalize (([] : List UInt8) ++ enc k.toNat) = L0 at N0 N1
  have HX0 : Hid (At13 (w.alloc (.cells #[.int .i64 k, .int .i64 t, .int .i64 n, .int .i64 d, .string s, .int .i64 vk, .int .i64 vx, .int .u64 vb, .string vs, .slice la ll lc, .int .i64 f, .int .u64 (c : Int), .int .i64 m] 39)) w.heap.size (.int .i64 k) (.int .i64 t) (.int .i64 n) (.int .i64 d) (.string s) (.int .i64 vk) (.int .i64 vx) (.int .u64 vb) (.string vs) (.slice la ll lc) (.int .i64 f) (.int .u64 (c : Int)) (.int .i64 m)) := At13.box w (.int .i64 k) (.int .i64 t) (.int .i64 n) (.int .i64 d) (.string s) (.int .i64 vk) (.int .i64 vx) (.int .u64 vb) (.string vs) (.slice la ll lc) (.int .i64 f) (.int .u64 (c : Int)) (.int .i64 m)
  have HB0 : Hid (Below w.heap.size w (w.alloc (.cells #[.int .i64 k, .int .i64 t, .int .i64 n, .int .i64 d, .string s, .int .i64 vk, .int .i64 vx, .int .u64 vb, .string vs, .slice la ll lc, .int .i64 f, .int .u64 (c : Int), .int .i64 m] 39))) := bel1 _ _
  clear h hmay hf hp hk hs le0 le1 le2 ls2
  go_enter Try.func14, Try.ntmps14
  go_wp2_with fail
  refine Calls.mono (CK.out _ ?_) ?_
  · exact bel1 _ _
  rintro e w1 ⟨rfl, hb⟩
  have HB1 : Hid (Below w.heap.size w w1) := bel2 HB0.out hb
  have HX1 : Hid (At13 w1 w.heap.size (.int .i64 k) (.int .i64 t) (.int .i64 n) (.int .i64 d) (.string s) (.int .i64 vk) (.int .i64 vx) (.int .u64 vb) (.string vs) (.slice la ll lc) (.int .i64 f) (.int .u64 (c : Int)) (.int .i64 m)) := HX0.out.below hb
  clear hb
  obtain ⟨x0, x1, x2, x3, x4, x5, x6, x7, x8, x9, x10, x11, x12⟩ := HX1.out
  go_wp2_with fail
  refine (PC.out _).mono ?_
  rintro e w2 ⟨rfl, e1⟩
  have e2 := e1.symm
  subst e2
  clear e1
  go_wp2_with fail
  go_region_held3 (fun w' => w'.cell? ⟨w.heap.size, 0, none⟩ = some (.int .i64 k) ∧ w'.cell? ⟨w.heap.size, 1, none⟩ = some (.int .i64 t)) (go_keep) (first
    | (go_at_call_of 26 (Value.int IntKind.i64 k); refine (N0.out _).mono ?_; rintro e w3 ⟨g3, q3, rfl, h3, hb3⟩; have H3 : Hid (Lib.HoldsBytes w3 (.slice (some ⟨g3, 0, none⟩) L0.length L0.length) L0) := h3; have B3 : Hid (Below w.heap.size w w3) := (by first | exact bel2 HB1.out hb3 | exact bel2 HB1.out.drew hb3); have y0 := cellB x0 (show Below w1.heap.size w1 w3 from (by first | exact hb3 | exact bel2 (Below.refl _ w1).drew hb3)); have y1 := cellB x1 (show Below w1.heap.size w1 w3 from (by first | exact hb3 | exact bel2 (Below.refl _ w1).drew hb3)); have HX3 : Hid (At13 w3 w.heap.size (.int .i64 k) (.int .i64 t) (.int .i64 n) (.int .i64 d) (.string s) (.int .i64 vk) (.int .i64 vx) (.int .u64 vb) (.string vs) (.slice la ll lc) (.int .i64 f) (.int .u64 (c : Int)) (.int .i64 m)) := HX1.out.below (by first | exact hb3 | exact bel2 (Below.refl _ w1).drew hb3); clear hb3 h3 q3)
    | (go_at_call_of 26 (Value.int IntKind.i64 t); refine (N1.out _ _ H3.out).mono ?_; rintro e w4 ⟨g4, q4, rfl, h4, hb4⟩; have H4 : Hid (Lib.HoldsBytes w4 (.slice (some ⟨g4, 0, none⟩) L1.length L1.length) L1) := h4; have B4 : Hid (Below w.heap.size w w4) := bel2 B3.out hb4; have z0 := cellB y0 hb4; have z1 := cellB y1 hb4; have HX4 : Hid (At13 w4 w.heap.size (.int .i64 k) (.int .i64 t) (.int .i64 n) (.int .i64 d) (.string s) (.int .i64 vk) (.int .i64 vx) (.int .u64 vb) (.string vs) (.slice la ll lc) (.int .i64 f) (.int .u64 (c : Int)) (.int .i64 m)) := HX3.out.below hb4; clear hb4 h4 q4))
  clear x0 x1 x2 x3 x4 x5 x6 x7 x8 x9 x10 x11 x12 y0 y1 z0 z1
  obtain ⟨x0, x1, x2, x3, x4, x5, x6, x7, x8, x9, x10, x11, x12⟩ := HX4.out
  go_wp2_with fail
  refine (N2.out _ _ H4.out).mono ?_
  rintro e w5 ⟨g5, q5, rfl, h5, hb5⟩
  have H5 : Hid (Lib.HoldsBytes w5 (.slice (some ⟨g5, 0, none⟩) L2.length L2.length) L2) := h5
  clear q5
  have B5 : Hid (Below w.heap.size w w5) := bel2 B4.out hb5
  have HX5 : Hid (At13 w5 w.heap.size (.int .i64 k) (.int .i64 t) (.int .i64 n) (.int .i64 d) (.string s) (.int .i64 vk) (.int .i64 vx) (.int .u64 vb) (.string vs) (.slice la ll lc) (.int .i64 f) (.int .u64 (c : Int)) (.int .i64 m)) := HX4.out.below hb5
  clear hb5 h5 x0 x1 x2 x3 x4 x5 x6 x7 x8 x9 x10 x11 x12
  go_wp2_with fail
  exact HE.out _ _ H5.out B5.out
set_option maxHeartbeats 2000000 in
set_option maxRecDepth 100000 in
theorem encode_9 (nn : Nat) (tv : Tv) (k t n d : Int) (s : ByteArray) (vk vx vb : Int) (vs : ByteArray) (la : Option Addr) (ll lc : Nat) (f : Int) (c : Nat) (m : Int) (hf : EFit k t n d s) (hp : PFit f c m) (hk : pt k = 9) (hs : s.size ≤ 200) (w : World) (h : Is w (nn + 1) (.agg #[.int .i64 vk, .int .i64 vx, .int .u64 vb, .string vs, .slice la ll lc]) tv) (hmay : MayE (nn + 1) ⟨k, t, n, d, s, tv, f, c, m⟩) :
    Calls Try.prog 14 #[(.agg #[.int .i64 k, .int .i64 t, .int .i64 n, .int .i64 d, .string s, .int .i64 vk, .int .i64 vx, .int .u64 vb, .string vs, .slice la ll lc, .int .i64 f, .int .u64 (c : Int), .int .i64 m])] w (EnP ((((([] : List UInt8) ++ enc k.toNat) ++ enc t.toNat) ++ enc n.toNat) ++ enc s.size ++ s.data.toList) w) := by
  have CK : Hid (∀ W, Below w.heap.size w W → Calls Try.prog 10 #[(.agg #[.int .i64 k, .int .i64 t, .int .i64 n, .int .i64 d, .string s, .int .i64 vk, .int .i64 vx, .int .u64 vb, .string vs, .slice la ll lc, .int .i64 f, .int .u64 (c : Int), .int .i64 m])] W fun e w' => e = .returned (.int .i64 0) ∧ Below W.heap.size W w') := fun W hB => (evcheck_calls nn tv k t n d s vk vx vb vs la ll lc f c m hp.c1 W (h.below hB)).mono fun e w' ⟨r, h1, h2, _, h4⟩ => ⟨by rw [h1, h2 hmay], h4⟩
  have PC : Hid (∀ W, Calls Try.prog 25 #[.int .i64 k] W fun e w' => e = .returned (.int .i64 9) ∧ w' = W) := fun W => by have := parts_calls k W; rw [hk] at this; exact this
  have a1 : bits BinOp.and IntKind.i64 9 1 = 1 := by decide +kernel
  have a2 : bits BinOp.and IntKind.i64 9 2 = 0 := by decide +kernel
  have a12 : bits BinOp.and IntKind.i64 9 12 = 8 := by decide +kernel
  have a16 : bits BinOp.and IntKind.i64 9 16 = 0 := by decide +kernel
  have a32 : bits BinOp.and IntKind.i64 9 32 = 0 := by decide +kernel
  have le0 : (enc k.toNat).length ≤ 9 := enc_length k.toNat (by have := hf.k1; omega)
  have le1 : (enc t.toNat).length ≤ 9 := enc_length t.toNat (by have := hf.t1; omega)
  have N0 : Hid (∀ W, Calls Try.prog 26 #[.slice none 0 0, .int .i64 k] W (NB W (([] : List UInt8) ++ enc k.toNat))) := fun W => num_calls _ [] k hf.k1 W (holds_nil W) (by decide)
  have N1 : Hid (∀ W v, Lib.HoldsBytes W v (([] : List UInt8) ++ enc k.toNat) → Calls Try.prog 26 #[v, .int .i64 t] W (NB W ((([] : List UInt8) ++ enc k.toNat) ++ enc t.toNat))) := fun W v hv => num_calls v _ t hf.t1 W hv (by simp only [List.length_append, List.length_nil]; omega)
  have le2 : (enc n.toNat).length ≤ 9 := enc_length n.toNat (by have := hf.n1; omega)
  have N2 : Hid (∀ W v, Lib.HoldsBytes W v ((([] : List UInt8) ++ enc k.toNat) ++ enc t.toNat) → Calls Try.prog 26 #[v, .int .i64 n] W (NB W (((([] : List UInt8) ++ enc k.toNat) ++ enc t.toNat) ++ enc n.toNat))) := fun W v hv => num_calls v _ n hf.n1 W hv (by simp only [List.length_append, List.length_nil]; omega)
  have le3 : (enc s.size).length ≤ 9 := enc_length s.size (by omega)
  have ls3 := str_len s
  have N3 : Hid (∀ W v, Lib.HoldsBytes W v (((([] : List UInt8) ++ enc k.toNat) ++ enc t.toNat) ++ enc n.toNat) → Calls Try.prog 27 #[v, .string s] W (NB W ((((([] : List UInt8) ++ enc k.toNat) ++ enc t.toNat) ++ enc n.toNat) ++ enc s.size ++ s.data.toList))) := fun W v hv => text_calls v _ s W hv (by omega) (by simp only [List.length_append, List.length_nil]; omega)
  have HE : Hid (∀ v w', Lib.HoldsBytes w' v ((((([] : List UInt8) ++ enc k.toNat) ++ enc t.toNat) ++ enc n.toNat) ++ enc s.size ++ s.data.toList) → Below w.heap.size w w' → EnP ((((([] : List UInt8) ++ enc k.toNat) ++ enc t.toNat) ++ enc n.toNat) ++ enc s.size ++ s.data.toList) w (.returned (.tuple #[v, .int .i64 0])) w') := fun v w' h1 h2 => enp h1 h2
  generalize EnP ((((([] : List UInt8) ++ enc k.toNat) ++ enc t.toNat) ++ enc n.toNat) ++ enc s.size ++ s.data.toList) w = Q at HE ⊢
  generalize ((((([] : List UInt8) ++ enc k.toNat) ++ enc t.toNat) ++ enc n.toNat) ++ enc s.size ++ s.data.toList) = L3 at N3 HE
  generalize (((([] : List UInt8) ++ enc k.toNat) ++ enc t.toNat) ++ enc n.toNat) = L2 at N2 N3
  generalize ((([] : List UInt8) ++ enc k.toNat) ++ enc t.toNat) = L1 at N1 N2
  generalize (([] : List UInt8) ++ enc k.toNat) = L0 at N0 N1
  have HX0 : Hid (At13 (w.alloc (.cells #[.int .i64 k, .int .i64 t, .int .i64 n, .int .i64 d, .string s, .int .i64 vk, .int .i64 vx, .int .u64 vb, .string vs, .slice la ll lc, .int .i64 f, .int .u64 (c : Int), .int .i64 m] 39)) w.heap.size (.int .i64 k) (.int .i64 t) (.int .i64 n) (.int .i64 d) (.string s) (.int .i64 vk) (.int .i64 vx) (.int .u64 vb) (.string vs) (.slice la ll lc) (.int .i64 f) (.int .u64 (c : Int)) (.int .i64 m)) := At13.box w (.int .i64 k) (.int .i64 t) (.int .i64 n) (.int .i64 d) (.string s) (.int .i64 vk) (.int .i64 vx) (.int .u64 vb) (.string vs) (.slice la ll lc) (.int .i64 f) (.int .u64 (c : Int)) (.int .i64 m)
  have HB0 : Hid (Below w.heap.size w (w.alloc (.cells #[.int .i64 k, .int .i64 t, .int .i64 n, .int .i64 d, .string s, .int .i64 vk, .int .i64 vx, .int .u64 vb, .string vs, .slice la ll lc, .int .i64 f, .int .u64 (c : Int), .int .i64 m] 39))) := bel1 _ _
  clear h hmay hf hp hk hs le0 le1 le2 le3 ls3
  go_enter Try.func14, Try.ntmps14
  go_wp2_with fail
  refine Calls.mono (CK.out _ ?_) ?_
  · exact bel1 _ _
  rintro e w1 ⟨rfl, hb⟩
  have HB1 : Hid (Below w.heap.size w w1) := bel2 HB0.out hb
  have HX1 : Hid (At13 w1 w.heap.size (.int .i64 k) (.int .i64 t) (.int .i64 n) (.int .i64 d) (.string s) (.int .i64 vk) (.int .i64 vx) (.int .u64 vb) (.string vs) (.slice la ll lc) (.int .i64 f) (.int .u64 (c : Int)) (.int .i64 m)) := HX0.out.below hb
  clear hb
  obtain ⟨x0, x1, x2, x3, x4, x5, x6, x7, x8, x9, x10, x11, x12⟩ := HX1.out
  go_wp2_with fail
  refine (PC.out _).mono ?_
  rintro e w2 ⟨rfl, e1⟩
  have e2 := e1.symm
  subst e2
  clear e1
  go_wp2_with fail
  go_region_held3 (fun w' => w'.cell? ⟨w.heap.size, 0, none⟩ = some (.int .i64 k) ∧ w'.cell? ⟨w.heap.size, 1, none⟩ = some (.int .i64 t)) (go_keep) (first
    | (go_at_call_of 26 (Value.int IntKind.i64 k); refine (N0.out _).mono ?_; rintro e w3 ⟨g3, q3, rfl, h3, hb3⟩; have H3 : Hid (Lib.HoldsBytes w3 (.slice (some ⟨g3, 0, none⟩) L0.length L0.length) L0) := h3; have B3 : Hid (Below w.heap.size w w3) := (by first | exact bel2 HB1.out hb3 | exact bel2 HB1.out.drew hb3); have y0 := cellB x0 (show Below w1.heap.size w1 w3 from (by first | exact hb3 | exact bel2 (Below.refl _ w1).drew hb3)); have y1 := cellB x1 (show Below w1.heap.size w1 w3 from (by first | exact hb3 | exact bel2 (Below.refl _ w1).drew hb3)); have HX3 : Hid (At13 w3 w.heap.size (.int .i64 k) (.int .i64 t) (.int .i64 n) (.int .i64 d) (.string s) (.int .i64 vk) (.int .i64 vx) (.int .u64 vb) (.string vs) (.slice la ll lc) (.int .i64 f) (.int .u64 (c : Int)) (.int .i64 m)) := HX1.out.below (by first | exact hb3 | exact bel2 (Below.refl _ w1).drew hb3); clear hb3 h3 q3)
    | (go_at_call_of 26 (Value.int IntKind.i64 t); refine (N1.out _ _ H3.out).mono ?_; rintro e w4 ⟨g4, q4, rfl, h4, hb4⟩; have H4 : Hid (Lib.HoldsBytes w4 (.slice (some ⟨g4, 0, none⟩) L1.length L1.length) L1) := h4; have B4 : Hid (Below w.heap.size w w4) := bel2 B3.out hb4; have z0 := cellB y0 hb4; have z1 := cellB y1 hb4; have HX4 : Hid (At13 w4 w.heap.size (.int .i64 k) (.int .i64 t) (.int .i64 n) (.int .i64 d) (.string s) (.int .i64 vk) (.int .i64 vx) (.int .u64 vb) (.string vs) (.slice la ll lc) (.int .i64 f) (.int .u64 (c : Int)) (.int .i64 m)) := HX3.out.below hb4; clear hb4 h4 q4))
  clear x0 x1 x2 x3 x4 x5 x6 x7 x8 x9 x10 x11 x12 y0 y1 z0 z1
  obtain ⟨x0, x1, x2, x3, x4, x5, x6, x7, x8, x9, x10, x11, x12⟩ := HX4.out
  go_wp2_with fail
  refine (N2.out _ _ H4.out).mono ?_
  rintro e w5 ⟨g5, q5, rfl, h5, hb5⟩
  have H5 : Hid (Lib.HoldsBytes w5 (.slice (some ⟨g5, 0, none⟩) L2.length L2.length) L2) := h5
  clear q5
  have B5 : Hid (Below w.heap.size w w5) := bel2 B4.out hb5
  have HX5 : Hid (At13 w5 w.heap.size (.int .i64 k) (.int .i64 t) (.int .i64 n) (.int .i64 d) (.string s) (.int .i64 vk) (.int .i64 vx) (.int .u64 vb) (.string vs) (.slice la ll lc) (.int .i64 f) (.int .u64 (c : Int)) (.int .i64 m)) := HX4.out.below hb5
  clear hb5 h5 x0 x1 x2 x3 x4 x5 x6 x7 x8 x9 x10 x11 x12
  obtain ⟨x0, x1, x2, x3, x4, x5, x6, x7, x8, x9, x10, x11, x12⟩ := HX5.out
  go_wp2_with fail
  refine (N3.out _ _ H5.out).mono ?_
  rintro e w6 ⟨g6, q6, rfl, h6, hb6⟩
  have H6 : Hid (Lib.HoldsBytes w6 (.slice (some ⟨g6, 0, none⟩) L3.length L3.length) L3) := h6
  clear q6
  have B6 : Hid (Below w.heap.size w w6) := bel2 B5.out hb6
  have HX6 : Hid (At13 w6 w.heap.size (.int .i64 k) (.int .i64 t) (.int .i64 n) (.int .i64 d) (.string s) (.int .i64 vk) (.int .i64 vx) (.int .u64 vb) (.string vs) (.slice la ll lc) (.int .i64 f) (.int .u64 (c : Int)) (.int .i64 m)) := HX5.out.below hb6
  clear hb6 h6 x0 x1 x2 x3 x4 x5 x6 x7 x8 x9 x10 x11 x12
  go_wp2_with fail
  exact HE.out _ _ H6.out B6.out
set_option maxHeartbeats 2000000 in
set_option maxRecDepth 100000 in
theorem encode_8 (nn : Nat) (tv : Tv) (k t n d : Int) (s : ByteArray) (vk vx vb : Int) (vs : ByteArray) (la : Option Addr) (ll lc : Nat) (f : Int) (c : Nat) (m : Int) (hf : EFit k t n d s) (hp : PFit f c m) (hk : pt k = 8) (hs : s.size ≤ 200) (w : World) (h : Is w (nn + 1) (.agg #[.int .i64 vk, .int .i64 vx, .int .u64 vb, .string vs, .slice la ll lc]) tv) (hmay : MayE (nn + 1) ⟨k, t, n, d, s, tv, f, c, m⟩) :
    Calls Try.prog 14 #[(.agg #[.int .i64 k, .int .i64 t, .int .i64 n, .int .i64 d, .string s, .int .i64 vk, .int .i64 vx, .int .u64 vb, .string vs, .slice la ll lc, .int .i64 f, .int .u64 (c : Int), .int .i64 m])] w (EnP (((([] : List UInt8) ++ enc k.toNat) ++ enc t.toNat) ++ enc s.size ++ s.data.toList) w) := by
  have CK : Hid (∀ W, Below w.heap.size w W → Calls Try.prog 10 #[(.agg #[.int .i64 k, .int .i64 t, .int .i64 n, .int .i64 d, .string s, .int .i64 vk, .int .i64 vx, .int .u64 vb, .string vs, .slice la ll lc, .int .i64 f, .int .u64 (c : Int), .int .i64 m])] W fun e w' => e = .returned (.int .i64 0) ∧ Below W.heap.size W w') := fun W hB => (evcheck_calls nn tv k t n d s vk vx vb vs la ll lc f c m hp.c1 W (h.below hB)).mono fun e w' ⟨r, h1, h2, _, h4⟩ => ⟨by rw [h1, h2 hmay], h4⟩
  have PC : Hid (∀ W, Calls Try.prog 25 #[.int .i64 k] W fun e w' => e = .returned (.int .i64 8) ∧ w' = W) := fun W => by have := parts_calls k W; rw [hk] at this; exact this
  have a1 : bits BinOp.and IntKind.i64 8 1 = 0 := by decide +kernel
  have a2 : bits BinOp.and IntKind.i64 8 2 = 0 := by decide +kernel
  have a12 : bits BinOp.and IntKind.i64 8 12 = 8 := by decide +kernel
  have a16 : bits BinOp.and IntKind.i64 8 16 = 0 := by decide +kernel
  have a32 : bits BinOp.and IntKind.i64 8 32 = 0 := by decide +kernel
  have le0 : (enc k.toNat).length ≤ 9 := enc_length k.toNat (by have := hf.k1; omega)
  have le1 : (enc t.toNat).length ≤ 9 := enc_length t.toNat (by have := hf.t1; omega)
  have N0 : Hid (∀ W, Calls Try.prog 26 #[.slice none 0 0, .int .i64 k] W (NB W (([] : List UInt8) ++ enc k.toNat))) := fun W => num_calls _ [] k hf.k1 W (holds_nil W) (by decide)
  have N1 : Hid (∀ W v, Lib.HoldsBytes W v (([] : List UInt8) ++ enc k.toNat) → Calls Try.prog 26 #[v, .int .i64 t] W (NB W ((([] : List UInt8) ++ enc k.toNat) ++ enc t.toNat))) := fun W v hv => num_calls v _ t hf.t1 W hv (by simp only [List.length_append, List.length_nil]; omega)
  have le2 : (enc s.size).length ≤ 9 := enc_length s.size (by omega)
  have ls2 := str_len s
  have N2 : Hid (∀ W v, Lib.HoldsBytes W v ((([] : List UInt8) ++ enc k.toNat) ++ enc t.toNat) → Calls Try.prog 27 #[v, .string s] W (NB W (((([] : List UInt8) ++ enc k.toNat) ++ enc t.toNat) ++ enc s.size ++ s.data.toList))) := fun W v hv => text_calls v _ s W hv (by omega) (by simp only [List.length_append, List.length_nil]; omega)
  have HE : Hid (∀ v w', Lib.HoldsBytes w' v (((([] : List UInt8) ++ enc k.toNat) ++ enc t.toNat) ++ enc s.size ++ s.data.toList) → Below w.heap.size w w' → EnP (((([] : List UInt8) ++ enc k.toNat) ++ enc t.toNat) ++ enc s.size ++ s.data.toList) w (.returned (.tuple #[v, .int .i64 0])) w') := fun v w' h1 h2 => enp h1 h2
  generalize EnP (((([] : List UInt8) ++ enc k.toNat) ++ enc t.toNat) ++ enc s.size ++ s.data.toList) w = Q at HE ⊢
  generalize (((([] : List UInt8) ++ enc k.toNat) ++ enc t.toNat) ++ enc s.size ++ s.data.toList) = L2 at N2 HE
  generalize ((([] : List UInt8) ++ enc k.toNat) ++ enc t.toNat) = L1 at N1 N2
  generalize (([] : List UInt8) ++ enc k.toNat) = L0 at N0 N1
  have HX0 : Hid (At13 (w.alloc (.cells #[.int .i64 k, .int .i64 t, .int .i64 n, .int .i64 d, .string s, .int .i64 vk, .int .i64 vx, .int .u64 vb, .string vs, .slice la ll lc, .int .i64 f, .int .u64 (c : Int), .int .i64 m] 39)) w.heap.size (.int .i64 k) (.int .i64 t) (.int .i64 n) (.int .i64 d) (.string s) (.int .i64 vk) (.int .i64 vx) (.int .u64 vb) (.string vs) (.slice la ll lc) (.int .i64 f) (.int .u64 (c : Int)) (.int .i64 m)) := At13.box w (.int .i64 k) (.int .i64 t) (.int .i64 n) (.int .i64 d) (.string s) (.int .i64 vk) (.int .i64 vx) (.int .u64 vb) (.string vs) (.slice la ll lc) (.int .i64 f) (.int .u64 (c : Int)) (.int .i64 m)
  have HB0 : Hid (Below w.heap.size w (w.alloc (.cells #[.int .i64 k, .int .i64 t, .int .i64 n, .int .i64 d, .string s, .int .i64 vk, .int .i64 vx, .int .u64 vb, .string vs, .slice la ll lc, .int .i64 f, .int .u64 (c : Int), .int .i64 m] 39))) := bel1 _ _
  clear h hmay hf hp hk hs le0 le1 le2 ls2
  go_enter Try.func14, Try.ntmps14
  go_wp2_with fail
  refine Calls.mono (CK.out _ ?_) ?_
  · exact bel1 _ _
  rintro e w1 ⟨rfl, hb⟩
  have HB1 : Hid (Below w.heap.size w w1) := bel2 HB0.out hb
  have HX1 : Hid (At13 w1 w.heap.size (.int .i64 k) (.int .i64 t) (.int .i64 n) (.int .i64 d) (.string s) (.int .i64 vk) (.int .i64 vx) (.int .u64 vb) (.string vs) (.slice la ll lc) (.int .i64 f) (.int .u64 (c : Int)) (.int .i64 m)) := HX0.out.below hb
  clear hb
  obtain ⟨x0, x1, x2, x3, x4, x5, x6, x7, x8, x9, x10, x11, x12⟩ := HX1.out
  go_wp2_with fail
  refine (PC.out _).mono ?_
  rintro e w2 ⟨rfl, e1⟩
  have e2 := e1.symm
  subst e2
  clear e1
  go_wp2_with fail
  go_region_held3 (fun w' => w'.cell? ⟨w.heap.size, 0, none⟩ = some (.int .i64 k) ∧ w'.cell? ⟨w.heap.size, 1, none⟩ = some (.int .i64 t)) (go_keep) (first
    | (go_at_call_of 26 (Value.int IntKind.i64 k); refine (N0.out _).mono ?_; rintro e w3 ⟨g3, q3, rfl, h3, hb3⟩; have H3 : Hid (Lib.HoldsBytes w3 (.slice (some ⟨g3, 0, none⟩) L0.length L0.length) L0) := h3; have B3 : Hid (Below w.heap.size w w3) := (by first | exact bel2 HB1.out hb3 | exact bel2 HB1.out.drew hb3); have y0 := cellB x0 (show Below w1.heap.size w1 w3 from (by first | exact hb3 | exact bel2 (Below.refl _ w1).drew hb3)); have y1 := cellB x1 (show Below w1.heap.size w1 w3 from (by first | exact hb3 | exact bel2 (Below.refl _ w1).drew hb3)); have HX3 : Hid (At13 w3 w.heap.size (.int .i64 k) (.int .i64 t) (.int .i64 n) (.int .i64 d) (.string s) (.int .i64 vk) (.int .i64 vx) (.int .u64 vb) (.string vs) (.slice la ll lc) (.int .i64 f) (.int .u64 (c : Int)) (.int .i64 m)) := HX1.out.below (by first | exact hb3 | exact bel2 (Below.refl _ w1).drew hb3); clear hb3 h3 q3)
    | (go_at_call_of 26 (Value.int IntKind.i64 t); refine (N1.out _ _ H3.out).mono ?_; rintro e w4 ⟨g4, q4, rfl, h4, hb4⟩; have H4 : Hid (Lib.HoldsBytes w4 (.slice (some ⟨g4, 0, none⟩) L1.length L1.length) L1) := h4; have B4 : Hid (Below w.heap.size w w4) := bel2 B3.out hb4; have z0 := cellB y0 hb4; have z1 := cellB y1 hb4; have HX4 : Hid (At13 w4 w.heap.size (.int .i64 k) (.int .i64 t) (.int .i64 n) (.int .i64 d) (.string s) (.int .i64 vk) (.int .i64 vx) (.int .u64 vb) (.string vs) (.slice la ll lc) (.int .i64 f) (.int .u64 (c : Int)) (.int .i64 m)) := HX3.out.below hb4; clear hb4 h4 q4))
  clear x0 x1 x2 x3 x4 x5 x6 x7 x8 x9 x10 x11 x12 y0 y1 z0 z1
  obtain ⟨x0, x1, x2, x3, x4, x5, x6, x7, x8, x9, x10, x11, x12⟩ := HX4.out
  go_wp2_with fail
  refine (N2.out _ _ H4.out).mono ?_
  rintro e w5 ⟨g5, q5, rfl, h5, hb5⟩
  have H5 : Hid (Lib.HoldsBytes w5 (.slice (some ⟨g5, 0, none⟩) L2.length L2.length) L2) := h5
  clear q5
  have B5 : Hid (Below w.heap.size w w5) := bel2 B4.out hb5
  have HX5 : Hid (At13 w5 w.heap.size (.int .i64 k) (.int .i64 t) (.int .i64 n) (.int .i64 d) (.string s) (.int .i64 vk) (.int .i64 vx) (.int .u64 vb) (.string vs) (.slice la ll lc) (.int .i64 f) (.int .u64 (c : Int)) (.int .i64 m)) := HX4.out.below hb5
  clear hb5 h5 x0 x1 x2 x3 x4 x5 x6 x7 x8 x9 x10 x11 x12
  go_wp2_with fail
  exact HE.out _ _ H5.out B5.out
set_option maxHeartbeats 2000000 in
set_option maxRecDepth 100000 in
theorem encode_0 (nn : Nat) (tv : Tv) (k t n d : Int) (s : ByteArray) (vk vx vb : Int) (vs : ByteArray) (la : Option Addr) (ll lc : Nat) (f : Int) (c : Nat) (m : Int) (hf : EFit k t n d s) (hp : PFit f c m) (hk : pt k = 0) (w : World) (h : Is w (nn + 1) (.agg #[.int .i64 vk, .int .i64 vx, .int .u64 vb, .string vs, .slice la ll lc]) tv) (hmay : MayE (nn + 1) ⟨k, t, n, d, s, tv, f, c, m⟩) :
    Calls Try.prog 14 #[(.agg #[.int .i64 k, .int .i64 t, .int .i64 n, .int .i64 d, .string s, .int .i64 vk, .int .i64 vx, .int .u64 vb, .string vs, .slice la ll lc, .int .i64 f, .int .u64 (c : Int), .int .i64 m])] w (EnP ((([] : List UInt8) ++ enc k.toNat) ++ enc t.toNat) w) := by
  have CK : Hid (∀ W, Below w.heap.size w W → Calls Try.prog 10 #[(.agg #[.int .i64 k, .int .i64 t, .int .i64 n, .int .i64 d, .string s, .int .i64 vk, .int .i64 vx, .int .u64 vb, .string vs, .slice la ll lc, .int .i64 f, .int .u64 (c : Int), .int .i64 m])] W fun e w' => e = .returned (.int .i64 0) ∧ Below W.heap.size W w') := fun W hB => (evcheck_calls nn tv k t n d s vk vx vb vs la ll lc f c m hp.c1 W (h.below hB)).mono fun e w' ⟨r, h1, h2, _, h4⟩ => ⟨by rw [h1, h2 hmay], h4⟩
  have PC : Hid (∀ W, Calls Try.prog 25 #[.int .i64 k] W fun e w' => e = .returned (.int .i64 0) ∧ w' = W) := fun W => by have := parts_calls k W; rw [hk] at this; exact this
  have a1 : bits BinOp.and IntKind.i64 0 1 = 0 := by decide +kernel
  have a2 : bits BinOp.and IntKind.i64 0 2 = 0 := by decide +kernel
  have a12 : bits BinOp.and IntKind.i64 0 12 = 0 := by decide +kernel
  have a16 : bits BinOp.and IntKind.i64 0 16 = 0 := by decide +kernel
  have a32 : bits BinOp.and IntKind.i64 0 32 = 0 := by decide +kernel
  have le0 : (enc k.toNat).length ≤ 9 := enc_length k.toNat (by have := hf.k1; omega)
  have le1 : (enc t.toNat).length ≤ 9 := enc_length t.toNat (by have := hf.t1; omega)
  have N0 : Hid (∀ W, Calls Try.prog 26 #[.slice none 0 0, .int .i64 k] W (NB W (([] : List UInt8) ++ enc k.toNat))) := fun W => num_calls _ [] k hf.k1 W (holds_nil W) (by decide)
  have N1 : Hid (∀ W v, Lib.HoldsBytes W v (([] : List UInt8) ++ enc k.toNat) → Calls Try.prog 26 #[v, .int .i64 t] W (NB W ((([] : List UInt8) ++ enc k.toNat) ++ enc t.toNat))) := fun W v hv => num_calls v _ t hf.t1 W hv (by simp only [List.length_append, List.length_nil]; omega)
  have HE : Hid (∀ v w', Lib.HoldsBytes w' v ((([] : List UInt8) ++ enc k.toNat) ++ enc t.toNat) → Below w.heap.size w w' → EnP ((([] : List UInt8) ++ enc k.toNat) ++ enc t.toNat) w (.returned (.tuple #[v, .int .i64 0])) w') := fun v w' h1 h2 => enp h1 h2
  generalize EnP ((([] : List UInt8) ++ enc k.toNat) ++ enc t.toNat) w = Q at HE ⊢
  generalize ((([] : List UInt8) ++ enc k.toNat) ++ enc t.toNat) = L1 at N1 HE
  generalize (([] : List UInt8) ++ enc k.toNat) = L0 at N0 N1
  have HX0 : Hid (At13 (w.alloc (.cells #[.int .i64 k, .int .i64 t, .int .i64 n, .int .i64 d, .string s, .int .i64 vk, .int .i64 vx, .int .u64 vb, .string vs, .slice la ll lc, .int .i64 f, .int .u64 (c : Int), .int .i64 m] 39)) w.heap.size (.int .i64 k) (.int .i64 t) (.int .i64 n) (.int .i64 d) (.string s) (.int .i64 vk) (.int .i64 vx) (.int .u64 vb) (.string vs) (.slice la ll lc) (.int .i64 f) (.int .u64 (c : Int)) (.int .i64 m)) := At13.box w (.int .i64 k) (.int .i64 t) (.int .i64 n) (.int .i64 d) (.string s) (.int .i64 vk) (.int .i64 vx) (.int .u64 vb) (.string vs) (.slice la ll lc) (.int .i64 f) (.int .u64 (c : Int)) (.int .i64 m)
  have HB0 : Hid (Below w.heap.size w (w.alloc (.cells #[.int .i64 k, .int .i64 t, .int .i64 n, .int .i64 d, .string s, .int .i64 vk, .int .i64 vx, .int .u64 vb, .string vs, .slice la ll lc, .int .i64 f, .int .u64 (c : Int), .int .i64 m] 39))) := bel1 _ _
  clear h hmay hf hp hk le0 le1 
  go_enter Try.func14, Try.ntmps14
  go_wp2_with fail
  refine Calls.mono (CK.out _ ?_) ?_
  · exact bel1 _ _
  rintro e w1 ⟨rfl, hb⟩
  have HB1 : Hid (Below w.heap.size w w1) := bel2 HB0.out hb
  have HX1 : Hid (At13 w1 w.heap.size (.int .i64 k) (.int .i64 t) (.int .i64 n) (.int .i64 d) (.string s) (.int .i64 vk) (.int .i64 vx) (.int .u64 vb) (.string vs) (.slice la ll lc) (.int .i64 f) (.int .u64 (c : Int)) (.int .i64 m)) := HX0.out.below hb
  clear hb
  obtain ⟨x0, x1, x2, x3, x4, x5, x6, x7, x8, x9, x10, x11, x12⟩ := HX1.out
  go_wp2_with fail
  refine (PC.out _).mono ?_
  rintro e w2 ⟨rfl, e1⟩
  have e2 := e1.symm
  subst e2
  clear e1
  go_wp2_with fail
  go_region_held3 (fun w' => w'.cell? ⟨w.heap.size, 0, none⟩ = some (.int .i64 k) ∧ w'.cell? ⟨w.heap.size, 1, none⟩ = some (.int .i64 t)) (go_keep) (first
    | (go_at_call_of 26 (Value.int IntKind.i64 k); refine (N0.out _).mono ?_; rintro e w3 ⟨g3, q3, rfl, h3, hb3⟩; have H3 : Hid (Lib.HoldsBytes w3 (.slice (some ⟨g3, 0, none⟩) L0.length L0.length) L0) := h3; have B3 : Hid (Below w.heap.size w w3) := (by first | exact bel2 HB1.out hb3 | exact bel2 HB1.out.drew hb3); have y0 := cellB x0 (show Below w1.heap.size w1 w3 from (by first | exact hb3 | exact bel2 (Below.refl _ w1).drew hb3)); have y1 := cellB x1 (show Below w1.heap.size w1 w3 from (by first | exact hb3 | exact bel2 (Below.refl _ w1).drew hb3)); have HX3 : Hid (At13 w3 w.heap.size (.int .i64 k) (.int .i64 t) (.int .i64 n) (.int .i64 d) (.string s) (.int .i64 vk) (.int .i64 vx) (.int .u64 vb) (.string vs) (.slice la ll lc) (.int .i64 f) (.int .u64 (c : Int)) (.int .i64 m)) := HX1.out.below (by first | exact hb3 | exact bel2 (Below.refl _ w1).drew hb3); clear hb3 h3 q3)
    | (go_at_call_of 26 (Value.int IntKind.i64 t); refine (N1.out _ _ H3.out).mono ?_; rintro e w4 ⟨g4, q4, rfl, h4, hb4⟩; have H4 : Hid (Lib.HoldsBytes w4 (.slice (some ⟨g4, 0, none⟩) L1.length L1.length) L1) := h4; have B4 : Hid (Below w.heap.size w w4) := bel2 B3.out hb4; have z0 := cellB y0 hb4; have z1 := cellB y1 hb4; have HX4 : Hid (At13 w4 w.heap.size (.int .i64 k) (.int .i64 t) (.int .i64 n) (.int .i64 d) (.string s) (.int .i64 vk) (.int .i64 vx) (.int .u64 vb) (.string vs) (.slice la ll lc) (.int .i64 f) (.int .u64 (c : Int)) (.int .i64 m)) := HX3.out.below hb4; clear hb4 h4 q4))
  clear x0 x1 x2 x3 x4 x5 x6 x7 x8 x9 x10 x11 x12 y0 y1 z0 z1
  go_wp2_with fail
  exact HE.out _ _ H4.out B4.out
end Go.Proofs.Ytacmlholbnddpaa
namespace Go.Proofs.Ytacmlholbnddpaa
open Go.ChangeShapes Go.WideShapes Go.ChangeAt Go.RowKit
theorem encode_may (nn : Nat) (tv : Tv) (k t n d : Int) (s : ByteArray) (vk vx vb : Int) (vs : ByteArray) (la : Option Addr) (ll lc : Nat) (f : Int) (c : Nat) (m : Int) (hf : EFit k t n d s) (hp : PFit f c m) (w : World) (h : Is w (nn + 1) (.agg #[.int .i64 vk, .int .i64 vx, .int .u64 vb, .string vs, .slice la ll lc]) tv) (hmay : MayE (nn + 1) ⟨k, t, n, d, s, tv, f, c, m⟩) :
    Calls Try.prog 14 #[(.agg #[.int .i64 k, .int .i64 t, .int .i64 n, .int .i64 d, .string s, .int .i64 vk, .int .i64 vx, .int .u64 vb, .string vs, .slice la ll lc, .int .i64 f, .int .u64 (c : Int), .int .i64 m])] w (EnP (encE (nn + 1) ⟨k, t, n, d, s, tv, f, c, m⟩) w) := by
  obtain ⟨-, -, m3, m4, -⟩ := id hmay
  dsimp only at m3 m4
  unfold encE
  rcases pt_set k with hk | hk | hk | hk | hk | hk | hk | hk | hk | hk
  · have eN : hN k = false := by unfold hN; rw [hk]; decide
    have eD : hD k = true := by unfold hD; rw [hk]; decide
    have eM : hM k = true := by unfold hM; rw [hk]; decide
    have eT : hT k = false := by unfold hT; rw [hk]; decide
    have eV : hV k = true := by unfold hV; rw [hk]; decide
    have eP' : hP k = true := by unfold hP; rw [hk]; decide
    have hs := may_size m3 (by rw [eM, eT]; rfl)
    have hmv : May (nn + 1) tv := by
      rcases m4 with h4 | h4
      · exact h4.2
      · rw [eV] at h4; cases h4.1
    have := encode_54 nn tv k t n d s vk vx vb vs la ll lc f c m hf hp hk hs hmv w h hmay
    simp only [eN, eD, eM, eT, eV, eP', Bool.or_false, Bool.false_eq_true, if_true, if_false, List.append_nil, List.nil_append, List.append_assoc] at this ⊢
    exact this
  · have eN : hN k = false := by unfold hN; rw [hk]; decide
    have eD : hD k = false := by unfold hD; rw [hk]; decide
    have eM : hM k = true := by unfold hM; rw [hk]; decide
    have eT : hT k = false := by unfold hT; rw [hk]; decide
    have eV : hV k = true := by unfold hV; rw [hk]; decide
    have eP' : hP k = false := by unfold hP; rw [hk]; decide
    have hs := may_size m3 (by rw [eM, eT]; rfl)
    have hmv : May (nn + 1) tv := by
      rcases m4 with h4 | h4
      · exact h4.2
      · rw [eV] at h4; cases h4.1
    have := encode_20 nn tv k t n d s vk vx vb vs la ll lc f c m hf hp hk hs hmv w h hmay
    simp only [eN, eD, eM, eT, eV, eP', Bool.or_false, Bool.false_eq_true, if_true, if_false, List.append_nil, List.nil_append, List.append_assoc] at this ⊢
    exact this
  · have eN : hN k = false := by unfold hN; rw [hk]; decide
    have eD : hD k = false := by unfold hD; rw [hk]; decide
    have eM : hM k = false := by unfold hM; rw [hk]; decide
    have eT : hT k = false := by unfold hT; rw [hk]; decide
    have eV : hV k = true := by unfold hV; rw [hk]; decide
    have eP' : hP k = false := by unfold hP; rw [hk]; decide
    have hmv : May (nn + 1) tv := by
      rcases m4 with h4 | h4
      · exact h4.2
      · rw [eV] at h4; cases h4.1
    have := encode_16 nn tv k t n d s vk vx vb vs la ll lc f c m hf hp hk hmv w h hmay
    simp only [eN, eD, eM, eT, eV, eP', Bool.or_self, Bool.false_eq_true, if_true, if_false, List.append_nil, List.nil_append, List.append_assoc] at this ⊢
    exact this
  · have eN : hN k = true := by unfold hN; rw [hk]; decide
    have eD : hD k = true := by unfold hD; rw [hk]; decide
    have eM : hM k = false := by unfold hM; rw [hk]; decide
    have eT : hT k = false := by unfold hT; rw [hk]; decide
    have eV : hV k = false := by unfold hV; rw [hk]; decide
    have eP' : hP k = false := by unfold hP; rw [hk]; decide
    have := encode_3 nn tv k t n d s vk vx vb vs la ll lc f c m hf hp hk w h hmay
    simp only [eN, eD, eM, eT, eV, eP', Bool.or_self, Bool.false_eq_true, if_true, if_false, List.append_nil, List.nil_append, List.append_assoc] at this ⊢
    exact this
  · have eN : hN k = false := by unfold hN; rw [hk]; decide
    have eD : hD k = true := by unfold hD; rw [hk]; decide
    have eM : hM k = false := by unfold hM; rw [hk]; decide
    have eT : hT k = false := by unfold hT; rw [hk]; decide
    have eV : hV k = false := by unfold hV; rw [hk]; decide
    have eP' : hP k = false := by unfold hP; rw [hk]; decide
    have := encode_2 nn tv k t n d s vk vx vb vs la ll lc f c m hf hp hk w h hmay
    simp only [eN, eD, eM, eT, eV, eP', Bool.or_self, Bool.false_eq_true, if_true, if_false, List.append_nil, List.nil_append, List.append_assoc] at this ⊢
    exact this
  · have eN : hN k = false := by unfold hN; rw [hk]; decide
    have eD : hD k = true := by unfold hD; rw [hk]; decide
    have eM : hM k = true := by unfold hM; rw [hk]; decide
    have eT : hT k = false := by unfold hT; rw [hk]; decide
    have eV : hV k = false := by unfold hV; rw [hk]; decide
    have eP' : hP k = false := by unfold hP; rw [hk]; decide
    have hs := may_size m3 (by rw [eM, eT]; rfl)
    have := encode_6 nn tv k t n d s vk vx vb vs la ll lc f c m hf hp hk hs w h hmay
    simp only [eN, eD, eM, eT, eV, eP', Bool.or_false, Bool.false_eq_true, if_true, if_false, List.append_nil, List.nil_append, List.append_assoc] at this ⊢
    exact this
  · have eN : hN k = false := by unfold hN; rw [hk]; decide
    have eD : hD k = false := by unfold hD; rw [hk]; decide
    have eM : hM k = true := by unfold hM; rw [hk]; decide
    have eT : hT k = false := by unfold hT; rw [hk]; decide
    have eV : hV k = false := by unfold hV; rw [hk]; decide
    have eP' : hP k = false := by unfold hP; rw [hk]; decide
    have hs := may_size m3 (by rw [eM, eT]; rfl)
    have := encode_4 nn tv k t n d s vk vx vb vs la ll lc f c m hf hp hk hs w h hmay
    simp only [eN, eD, eM, eT, eV, eP', Bool.or_false, Bool.false_eq_true, if_true, if_false, List.append_nil, List.nil_append, List.append_assoc] at this ⊢
    exact this
  · have eN : hN k = true := by unfold hN; rw [hk]; decide
    have eD : hD k = false := by unfold hD; rw [hk]; decide
    have eM : hM k = false := by unfold hM; rw [hk]; decide
    have eT : hT k = true := by unfold hT; rw [hk]; decide
    have eV : hV k = false := by unfold hV; rw [hk]; decide
    have eP' : hP k = false := by unfold hP; rw [hk]; decide
    have hs := may_size m3 (by rw [eM, eT]; rfl)
    have := encode_9 nn tv k t n d s vk vx vb vs la ll lc f c m hf hp hk hs w h hmay
    simp only [eN, eD, eM, eT, eV, eP', Bool.or_true, Bool.false_eq_true, if_true, if_false, List.append_nil, List.nil_append, List.append_assoc] at this ⊢
    exact this
  · have eN : hN k = false := by unfold hN; rw [hk]; decide
    have eD : hD k = false := by unfold hD; rw [hk]; decide
    have eM : hM k = false := by unfold hM; rw [hk]; decide
    have eT : hT k = true := by unfold hT; rw [hk]; decide
    have eV : hV k = false := by unfold hV; rw [hk]; decide
    have eP' : hP k = false := by unfold hP; rw [hk]; decide
    have hs := may_size m3 (by rw [eM, eT]; rfl)
    have := encode_8 nn tv k t n d s vk vx vb vs la ll lc f c m hf hp hk hs w h hmay
    simp only [eN, eD, eM, eT, eV, eP', Bool.or_true, Bool.false_eq_true, if_true, if_false, List.append_nil, List.nil_append, List.append_assoc] at this ⊢
    exact this
  · have eN : hN k = false := by unfold hN; rw [hk]; decide
    have eD : hD k = false := by unfold hD; rw [hk]; decide
    have eM : hM k = false := by unfold hM; rw [hk]; decide
    have eT : hT k = false := by unfold hT; rw [hk]; decide
    have eV : hV k = false := by unfold hV; rw [hk]; decide
    have eP' : hP k = false := by unfold hP; rw [hk]; decide
    have := encode_0 nn tv k t n d s vk vx vb vs la ll lc f c m hf hp hk w h hmay
    simp only [eN, eD, eM, eT, eV, eP', Bool.or_self, Bool.false_eq_true, if_false, List.append_nil, List.nil_append] at this ⊢
    exact this
theorem encode_no (nn : Nat) (tv : Tv) (k t n d : Int) (s : ByteArray) (vk vx vb : Int) (vs : ByteArray) (la : Option Addr) (ll lc : Nat) (f : Int) (c : Nat) (m : Int) (hc : c < 18446744073709551616) (w : World) (h : Is w (nn + 1) (.agg #[.int .i64 vk, .int .i64 vx, .int .u64 vb, .string vs, .slice la ll lc]) tv) (hmay : ¬ MayE (nn + 1) ⟨k, t, n, d, s, tv, f, c, m⟩) :
    Calls Try.prog 14 #[(.agg #[.int .i64 k, .int .i64 t, .int .i64 n, .int .i64 d, .string s, .int .i64 vk, .int .i64 vx, .int .u64 vb, .string vs, .slice la ll lc, .int .i64 f, .int .u64 (c : Int), .int .i64 m])] w fun e w' => e = .returned (.tuple #[.slice none 0 0, .int .i64 1]) ∧ Below w.heap.size w w' := by
  have CK : Hid (∀ W, Below w.heap.size w W → Calls Try.prog 10 #[(.agg #[.int .i64 k, .int .i64 t, .int .i64 n, .int .i64 d, .string s, .int .i64 vk, .int .i64 vx, .int .u64 vb, .string vs, .slice la ll lc, .int .i64 f, .int .u64 (c : Int), .int .i64 m])] W fun e w' => e = .returned (.int .i64 1) ∧ Below W.heap.size W w') := fun W hB => (evcheck_calls nn tv k t n d s vk vx vb vs la ll lc f c m hc W (h.below hB)).mono fun e w' ⟨r, h1, _, h3, h4⟩ => ⟨by rw [h1, h3 hmay], h4⟩
  clear h hmay hc
  go_enter Try.func14, Try.ntmps14
  go_wp2_with fail
  refine Calls.mono (CK.out _ ?_) ?_
  · exact bel1 _ _
  rintro e w1 ⟨rfl, hb⟩
  have HB1 : Hid (Below w.heap.size w w1) := bel2 (bel1 _ _) hb
  clear hb
  go_wp2_with fail
  go_ret2
  exact ⟨rfl, HB1.out⟩
end Go.Proofs.Ytacmlholbnddpaa
