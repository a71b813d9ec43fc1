/- A step's bytes; the contract of put. -/
import Derived.Test.YtimiklekajelfaaSC
import Derived.Test.YtimiklekajelfaaPE
import Derived.Test.YtimiklekajelfaaXA
namespace Go.Proofs.Ytimiklekajelfaa
open Go.ChangeShapes Go.WideShapes Go.ChangeAt Go.RowKit
def ens (ks : List Int) : List UInt8 := (ks.map fun n => enc n.toNat).flatten
/-- A step's bytes, by what its kind has. -/
def putF (f : Int) (x : Sp) : List UInt8 :=
  if f = 7 then ((enc x.k.toNat ++ enc x.s.toNat) ++ enc x.b.length) ++ x.b else if f = 3 then enc x.k.toNat ++ enc x.s.toNat else if f = 9 then enc x.k.toNat ++ enc x.n.toNat else if f = 17 then (enc x.k.toNat ++ enc x.ks.length) ++ ens x.ks else enc x.k.toNat
def putS (x : Sp) : List UInt8 := putF (fld x.k) x
theorem fld_is (k : Int) : fld k = 7 ∨ fld k = 3 ∨ fld k = 9 ∨ fld k = 17 ∨ fld k = 1 ∨ fld k = 0 := by
  unfold fld
  split
  · simp
  · split
    · simp
    · split
      · simp
      · split
        · simp
        · split <;> simp
structure MayF (x : Sp) : Prop where
  f0 : fld x.k ≠ 0
  s : upTo x.s (mst (fld x.k) 2 255) = true
  b : (x.b.length : Int) ≤ mst (fld x.k) 4 16384
  n : upTo x.n (mst (fld x.k) 8 1099511627776) = true
  l : (x.ks.length : Int) ≤ mst (fld x.k) 16 64
  ks : ∀ z ∈ x.ks, ovr z = false
theorem may_of {x : Sp} (h : mayB x = true) : MayF x := by
  unfold mayB at h
  simp only [Bool.and_eq_true, decide_eq_true_eq, bne_iff_ne, ne_eq, Bool.not_eq_true', List.any_eq_false] at h
  obtain ⟨⟨⟨⟨⟨h0, h1⟩, h2⟩, h3⟩, h4⟩, h5⟩ := h
  exact ⟨h0, h1, h2, h3, h4, fun z hz => by simpa using h5 z hz⟩
theorem enc_short (n : Int) (h : In n) : (enc n.toNat).length ≤ 9 := enc_length n.toNat (by have := h.2; omega)
theorem mst_le {f c m : Int} (hm : 0 ≤ m) : mst f c m ≤ m := by unfold mst; split <;> omega
theorem ens_len : ∀ ks : List Int, (∀ z ∈ ks, In z) → (ens ks).length ≤ 9 * ks.length
  | [], _ => by simp [ens]
  | z :: ks, h => by
    have h1 := ens_len ks (fun y hy => h y (List.mem_cons_of_mem _ hy))
    have h2 := enc_short z (h z List.mem_cons_self)
    unfold ens at h1 ⊢
    simp only [List.map_cons, List.flatten_cons, List.length_append, List.length_cons]
    omega
set_option maxHeartbeats 4000000 in
set_option maxRecDepth 100000 in
theorem put1_calls (P : Nat → Prop) (x : Sp) (vb vk : Value) (w : World) (h : IsV P w vb vk x) (wf : WfS x) (hm : MayF x) (hf : fld x.k = 1) :
    Calls Try.prog 32 #[.agg (rowS vb vk x)] w (NB w (putF 1 x)) := by
  obtain ⟨pb, cb, rfl, _⟩ := h.1.shape
  obtain ⟨pk, ck, rfl, _⟩ := h.2.shape
  obtain ⟨k, s, n, b, ks⟩ := x
  have H0 : Hid (IsV P w (.slice pb b.length cb) (.slice pk ks.length ck) ⟨k, s, n, b, ks⟩) := h
  have WF : Hid (WfS ⟨k, s, n, b, ks⟩) := wf
  have MF : Hid (MayF ⟨k, s, n, b, ks⟩) := hm
  have HF : Hid (fld k = 1) := hf
  have IS : Hid (In s) := wf.2.1
  have INn : Hid (In n) := wf.2.2.1
  have CF : Hid (∀ W, Calls Try.prog 42 #[.int .i64 k] W fun e w' => e = .returned (.int .i64 1) ∧ w' = W) := fun W => by have := fields_calls k W; rwa [HF.out] at this
  have b2 : (bits .and .i64 1 2 != 0) = false := by decide
  have b4 : (bits .and .i64 1 4 != 0) = false := by decide
  have b8 : (bits .and .i64 1 8 != 0) = false := by decide
  have b16 : (bits .and .i64 1 16 != 0) = false := by decide
  unfold rowS putF
  rw [if_neg (by decide), if_neg (by decide), if_neg (by decide), if_neg (by decide)]
  dsimp only
  obtain ⟨h0, h1, h2, h3, h4⟩ := box_at w (.int .i64 k) (.int .i64 s) (.int .i64 n) (.slice pb b.length cb) (.slice pk ks.length ck)
  have A0 : Hid (At5 (w.alloc (.cells #[.int .i64 k, .int .i64 s, .int .i64 n, .slice pb b.length cb, .slice pk ks.length ck] 28)) w.heap.size 0 (.int .i64 k) (.int .i64 s) (.int .i64 n) (.slice pb b.length cb) (.slice pk ks.length ck)) := box_at w _ _ _ _ _
  have B0 : Hid (Below w.heap.size w (w.alloc (.cells #[.int .i64 k, .int .i64 s, .int .i64 n, .slice pb b.length cb, .slice pk ks.length ck] 28))) := bel1 w _
  have N1 : Hid (Calls Try.prog 56 #[.slice none 0 0, .int .i64 k] (w.alloc (.cells #[.int .i64 k, .int .i64 s, .int .i64 n, .slice pb b.length cb, .slice pk ks.length ck] 28)) (NB _ (enc k.toNat))) := num_calls (.slice none 0 0) [] k (by have := WF.out.1.2; dsimp only at this; omega) _ (holds_nil _) (by simp)
  have E1 : Hid ((enc k.toNat).length ≤ 9) := enc_short k WF.out.1
  clear h wf hm hf
  go_enter Try.func32, Try.ntmps32
  go_wp2_with fail
  refine (CF.out _).mono ?_
  rintro e w1 ⟨rfl, hw1⟩
  rw [hw1]
  clear hw1 CF
  go_wp2_with fail
  generalize w.alloc (.cells #[.int .i64 k, .int .i64 s, .int .i64 n, .slice pb b.length cb, .slice pk ks.length ck] 28) = W0 at A0 B0 N1 ⊢
  refine N1.out.mono ?_
  rintro e w1 ⟨g1, gl1, rfl, gh1, gb1⟩
  have A1 : Hid (At5 w1 w.heap.size 0 (.int .i64 k) (.int .i64 s) (.int .i64 n) (.slice pb b.length cb) (.slice pk ks.length ck)) := A0.out.below gb1
  have B1 : Hid (Below w.heap.size w w1) := B0.out.trans (gb1.mono B0.out.size)
  have G1 : Hid (w.heap.size ≤ g1) := Nat.le_trans B0.out.size gl1
  obtain ⟨l1, hl1⟩ : ∃ l, l = enc k.toNat := ⟨_, rfl⟩
  rw [← hl1] at gh1 ⊢
  have H1 : Hid (Lib.HoldsBytes w1 (.slice (some ⟨g1, 0, none⟩) l1.length l1.length) l1) := gh1
  have L1 : Hid (l1 = enc k.toNat) := hl1
  obtain ⟨h0, h1, h2, h3, h4⟩ := A1.out
  clear gl1 gb1 gh1 hl1 N1
  go_wp2_with fail
  go_ret
  rw [← L1.out]
  exact ⟨g1, G1.out, rfl, H1.out, B1.out⟩
set_option maxHeartbeats 4000000 in
set_option maxRecDepth 100000 in
theorem put3_calls (P : Nat → Prop) (x : Sp) (vb vk : Value) (w : World) (h : IsV P w vb vk x) (wf : WfS x) (hm : MayF x) (hf : fld x.k = 3) :
    Calls Try.prog 32 #[.agg (rowS vb vk x)] w (NB w (putF 3 x)) := by
  obtain ⟨pb, cb, rfl, _⟩ := h.1.shape
  obtain ⟨pk, ck, rfl, _⟩ := h.2.shape
  obtain ⟨k, s, n, b, ks⟩ := x
  have H0 : Hid (IsV P w (.slice pb b.length cb) (.slice pk ks.length ck) ⟨k, s, n, b, ks⟩) := h
  have WF : Hid (WfS ⟨k, s, n, b, ks⟩) := wf
  have MF : Hid (MayF ⟨k, s, n, b, ks⟩) := hm
  have HF : Hid (fld k = 3) := hf
  have IS : Hid (In s) := wf.2.1
  have INn : Hid (In n) := wf.2.2.1
  have CF : Hid (∀ W, Calls Try.prog 42 #[.int .i64 k] W fun e w' => e = .returned (.int .i64 3) ∧ w' = W) := fun W => by have := fields_calls k W; rwa [HF.out] at this
  have b2 : (bits .and .i64 3 2 != 0) = true := by decide
  have b4 : (bits .and .i64 3 4 != 0) = false := by decide
  have b8 : (bits .and .i64 3 8 != 0) = false := by decide
  have b16 : (bits .and .i64 3 16 != 0) = false := by decide
  unfold rowS putF
  rw [if_neg (by decide), if_pos rfl]
  dsimp only
  obtain ⟨h0, h1, h2, h3, h4⟩ := box_at w (.int .i64 k) (.int .i64 s) (.int .i64 n) (.slice pb b.length cb) (.slice pk ks.length ck)
  have A0 : Hid (At5 (w.alloc (.cells #[.int .i64 k, .int .i64 s, .int .i64 n, .slice pb b.length cb, .slice pk ks.length ck] 28)) w.heap.size 0 (.int .i64 k) (.int .i64 s) (.int .i64 n) (.slice pb b.length cb) (.slice pk ks.length ck)) := box_at w _ _ _ _ _
  have B0 : Hid (Below w.heap.size w (w.alloc (.cells #[.int .i64 k, .int .i64 s, .int .i64 n, .slice pb b.length cb, .slice pk ks.length ck] 28))) := bel1 w _
  have N1 : Hid (Calls Try.prog 56 #[.slice none 0 0, .int .i64 k] (w.alloc (.cells #[.int .i64 k, .int .i64 s, .int .i64 n, .slice pb b.length cb, .slice pk ks.length ck] 28)) (NB _ (enc k.toNat))) := num_calls (.slice none 0 0) [] k (by have := WF.out.1.2; dsimp only at this; omega) _ (holds_nil _) (by simp)
  have E1 : Hid ((enc k.toNat).length ≤ 9) := enc_short k WF.out.1
  clear h wf hm hf
  go_enter Try.func32, Try.ntmps32
  go_wp2_with fail
  refine (CF.out _).mono ?_
  rintro e w1 ⟨rfl, hw1⟩
  rw [hw1]
  clear hw1 CF
  go_wp2_with fail
  generalize w.alloc (.cells #[.int .i64 k, .int .i64 s, .int .i64 n, .slice pb b.length cb, .slice pk ks.length ck] 28) = W0 at A0 B0 N1 ⊢
  refine N1.out.mono ?_
  rintro e w1 ⟨g1, gl1, rfl, gh1, gb1⟩
  have A1 : Hid (At5 w1 w.heap.size 0 (.int .i64 k) (.int .i64 s) (.int .i64 n) (.slice pb b.length cb) (.slice pk ks.length ck)) := A0.out.below gb1
  have B1 : Hid (Below w.heap.size w w1) := B0.out.trans (gb1.mono B0.out.size)
  have G1 : Hid (w.heap.size ≤ g1) := Nat.le_trans B0.out.size gl1
  obtain ⟨l1, hl1⟩ : ∃ l, l = enc k.toNat := ⟨_, rfl⟩
  rw [← hl1] at gh1 ⊢
  have H1 : Hid (Lib.HoldsBytes w1 (.slice (some ⟨g1, 0, none⟩) l1.length l1.length) l1) := gh1
  have L1 : Hid (l1 = enc k.toNat) := hl1
  obtain ⟨h0, h1, h2, h3, h4⟩ := A1.out
  clear gl1 gb1 gh1 hl1 N1
  have N2 : Hid (Calls Try.prog 56 #[.slice (some ⟨g1, 0, none⟩) l1.length l1.length, .int .i64 s] w1 (NB w1 (l1 ++ enc (s).toNat))) := num_calls _ l1 s (by have := (IS.out).2; omega) _ H1.out (by have e := E1.out; rw [← L1.out] at e; omega)
  go_wp2_with fail
  refine N2.out.mono ?_
  rintro e w2 ⟨g2, gl2, rfl, gh2, gb2⟩
  have A2 : Hid (At5 w2 w.heap.size 0 (.int .i64 k) (.int .i64 s) (.int .i64 n) (.slice pb b.length cb) (.slice pk ks.length ck)) := A1.out.below gb2
  have B2 : Hid (Below w.heap.size w w2) := B1.out.trans (gb2.mono B1.out.size)
  have G2 : Hid (w.heap.size ≤ g2) := Nat.le_trans B1.out.size gl2
  obtain ⟨l2, hl2⟩ : ∃ l, l = l1 ++ enc s.toNat := ⟨_, rfl⟩
  rw [← hl2] at gh2 ⊢
  have H2 : Hid (Lib.HoldsBytes w2 (.slice (some ⟨g2, 0, none⟩) l2.length l2.length) l2) := gh2
  have L2 : Hid (l2 = l1 ++ enc s.toNat) := hl2
  obtain ⟨h0, h1, h2, h3, h4⟩ := A2.out
  clear gl2 gb2 gh2 hl2 N2
  go_wp2_with fail
  go_ret
  rw [← L1.out, ← L2.out]
  exact ⟨g2, G2.out, rfl, H2.out, B2.out⟩
set_option maxHeartbeats 4000000 in
set_option maxRecDepth 100000 in
theorem put9_calls (P : Nat → Prop) (x : Sp) (vb vk : Value) (w : World) (h : IsV P w vb vk x) (wf : WfS x) (hm : MayF x) (hf : fld x.k = 9) :
    Calls Try.prog 32 #[.agg (rowS vb vk x)] w (NB w (putF 9 x)) := by
  obtain ⟨pb, cb, rfl, _⟩ := h.1.shape
  obtain ⟨pk, ck, rfl, _⟩ := h.2.shape
  obtain ⟨k, s, n, b, ks⟩ := x
  have H0 : Hid (IsV P w (.slice pb b.length cb) (.slice pk ks.length ck) ⟨k, s, n, b, ks⟩) := h
  have WF : Hid (WfS ⟨k, s, n, b, ks⟩) := wf
  have MF : Hid (MayF ⟨k, s, n, b, ks⟩) := hm
  have HF : Hid (fld k = 9) := hf
  have IS : Hid (In s) := wf.2.1
  have INn : Hid (In n) := wf.2.2.1
  have CF : Hid (∀ W, Calls Try.prog 42 #[.int .i64 k] W fun e w' => e = .returned (.int .i64 9) ∧ w' = W) := fun W => by have := fields_calls k W; rwa [HF.out] at this
  have b2 : (bits .and .i64 9 2 != 0) = false := by decide
  have b4 : (bits .and .i64 9 4 != 0) = false := by decide
  have b8 : (bits .and .i64 9 8 != 0) = true := by decide
  have b16 : (bits .and .i64 9 16 != 0) = false := by decide
  unfold rowS putF
  rw [if_neg (by decide), if_neg (by decide), if_pos rfl]
  dsimp only
  obtain ⟨h0, h1, h2, h3, h4⟩ := box_at w (.int .i64 k) (.int .i64 s) (.int .i64 n) (.slice pb b.length cb) (.slice pk ks.length ck)
  have A0 : Hid (At5 (w.alloc (.cells #[.int .i64 k, .int .i64 s, .int .i64 n, .slice pb b.length cb, .slice pk ks.length ck] 28)) w.heap.size 0 (.int .i64 k) (.int .i64 s) (.int .i64 n) (.slice pb b.length cb) (.slice pk ks.length ck)) := box_at w _ _ _ _ _
  have B0 : Hid (Below w.heap.size w (w.alloc (.cells #[.int .i64 k, .int .i64 s, .int .i64 n, .slice pb b.length cb, .slice pk ks.length ck] 28))) := bel1 w _
  have N1 : Hid (Calls Try.prog 56 #[.slice none 0 0, .int .i64 k] (w.alloc (.cells #[.int .i64 k, .int .i64 s, .int .i64 n, .slice pb b.length cb, .slice pk ks.length ck] 28)) (NB _ (enc k.toNat))) := num_calls (.slice none 0 0) [] k (by have := WF.out.1.2; dsimp only at this; omega) _ (holds_nil _) (by simp)
  have E1 : Hid ((enc k.toNat).length ≤ 9) := enc_short k WF.out.1
  clear h wf hm hf
  go_enter Try.func32, Try.ntmps32
  go_wp2_with fail
  refine (CF.out _).mono ?_
  rintro e w1 ⟨rfl, hw1⟩
  rw [hw1]
  clear hw1 CF
  go_wp2_with fail
  generalize w.alloc (.cells #[.int .i64 k, .int .i64 s, .int .i64 n, .slice pb b.length cb, .slice pk ks.length ck] 28) = W0 at A0 B0 N1 ⊢
  refine N1.out.mono ?_
  rintro e w1 ⟨g1, gl1, rfl, gh1, gb1⟩
  have A1 : Hid (At5 w1 w.heap.size 0 (.int .i64 k) (.int .i64 s) (.int .i64 n) (.slice pb b.length cb) (.slice pk ks.length ck)) := A0.out.below gb1
  have B1 : Hid (Below w.heap.size w w1) := B0.out.trans (gb1.mono B0.out.size)
  have G1 : Hid (w.heap.size ≤ g1) := Nat.le_trans B0.out.size gl1
  obtain ⟨l1, hl1⟩ : ∃ l, l = enc k.toNat := ⟨_, rfl⟩
  rw [← hl1] at gh1 ⊢
  have H1 : Hid (Lib.HoldsBytes w1 (.slice (some ⟨g1, 0, none⟩) l1.length l1.length) l1) := gh1
  have L1 : Hid (l1 = enc k.toNat) := hl1
  obtain ⟨h0, h1, h2, h3, h4⟩ := A1.out
  clear gl1 gb1 gh1 hl1 N1
  have N2 : Hid (Calls Try.prog 56 #[.slice (some ⟨g1, 0, none⟩) l1.length l1.length, .int .i64 n] w1 (NB w1 (l1 ++ enc (n).toNat))) := num_calls _ l1 n (by have := (INn.out).2; omega) _ H1.out (by have e := E1.out; rw [← L1.out] at e; omega)
  go_wp2_with fail
  refine N2.out.mono ?_
  rintro e w2 ⟨g2, gl2, rfl, gh2, gb2⟩
  have A2 : Hid (At5 w2 w.heap.size 0 (.int .i64 k) (.int .i64 s) (.int .i64 n) (.slice pb b.length cb) (.slice pk ks.length ck)) := A1.out.below gb2
  have B2 : Hid (Below w.heap.size w w2) := B1.out.trans (gb2.mono B1.out.size)
  have G2 : Hid (w.heap.size ≤ g2) := Nat.le_trans B1.out.size gl2
  obtain ⟨l2, hl2⟩ : ∃ l, l = l1 ++ enc n.toNat := ⟨_, rfl⟩
  rw [← hl2] at gh2 ⊢
  have H2 : Hid (Lib.HoldsBytes w2 (.slice (some ⟨g2, 0, none⟩) l2.length l2.length) l2) := gh2
  have L2 : Hid (l2 = l1 ++ enc n.toNat) := hl2
  obtain ⟨h0, h1, h2, h3, h4⟩ := A2.out
  clear gl2 gb2 gh2 hl2 N2
  go_wp2_with fail
  go_ret
  rw [← L1.out, ← L2.out]
  exact ⟨g2, G2.out, rfl, H2.out, B2.out⟩
set_option maxHeartbeats 4000000 in
set_option maxRecDepth 100000 in
theorem put7_calls (P : Nat → Prop) (x : Sp) (vb vk : Value) (w : World) (h : IsV P w vb vk x) (wf : WfS x) (hm : MayF x) (hf : fld x.k = 7) :
    Calls Try.prog 32 #[.agg (rowS vb vk x)] w (NB w (putF 7 x)) := by
  obtain ⟨pb, cb, rfl, _⟩ := h.1.shape
  obtain ⟨pk, ck, rfl, _⟩ := h.2.shape
  obtain ⟨k, s, n, b, ks⟩ := x
  have H0 : Hid (IsV P w (.slice pb b.length cb) (.slice pk ks.length ck) ⟨k, s, n, b, ks⟩) := h
  have WF : Hid (WfS ⟨k, s, n, b, ks⟩) := wf
  have MF : Hid (MayF ⟨k, s, n, b, ks⟩) := hm
  have HF : Hid (fld k = 7) := hf
  have IS : Hid (In s) := wf.2.1
  have INn : Hid (In n) := wf.2.2.1
  have CF : Hid (∀ W, Calls Try.prog 42 #[.int .i64 k] W fun e w' => e = .returned (.int .i64 7) ∧ w' = W) := fun W => by have := fields_calls k W; rwa [HF.out] at this
  have b2 : (bits .and .i64 7 2 != 0) = true := by decide
  have b4 : (bits .and .i64 7 4 != 0) = true := by decide
  have b8 : (bits .and .i64 7 8 != 0) = false := by decide
  have b16 : (bits .and .i64 7 16 != 0) = false := by decide
  unfold rowS putF
  rw [if_pos rfl]
  dsimp only
  obtain ⟨h0, h1, h2, h3, h4⟩ := box_at w (.int .i64 k) (.int .i64 s) (.int .i64 n) (.slice pb b.length cb) (.slice pk ks.length ck)
  have A0 : Hid (At5 (w.alloc (.cells #[.int .i64 k, .int .i64 s, .int .i64 n, .slice pb b.length cb, .slice pk ks.length ck] 28)) w.heap.size 0 (.int .i64 k) (.int .i64 s) (.int .i64 n) (.slice pb b.length cb) (.slice pk ks.length ck)) := box_at w _ _ _ _ _
  have B0 : Hid (Below w.heap.size w (w.alloc (.cells #[.int .i64 k, .int .i64 s, .int .i64 n, .slice pb b.length cb, .slice pk ks.length ck] 28))) := bel1 w _
  have N1 : Hid (Calls Try.prog 56 #[.slice none 0 0, .int .i64 k] (w.alloc (.cells #[.int .i64 k, .int .i64 s, .int .i64 n, .slice pb b.length cb, .slice pk ks.length ck] 28)) (NB _ (enc k.toNat))) := num_calls (.slice none 0 0) [] k (by have := WF.out.1.2; dsimp only at this; omega) _ (holds_nil _) (by simp)
  have E1 : Hid ((enc k.toNat).length ≤ 9) := enc_short k WF.out.1
  clear h wf hm hf
  go_enter Try.func32, Try.ntmps32
  go_wp2_with fail
  refine (CF.out _).mono ?_
  rintro e w1 ⟨rfl, hw1⟩
  rw [hw1]
  clear hw1 CF
  go_wp2_with fail
  generalize w.alloc (.cells #[.int .i64 k, .int .i64 s, .int .i64 n, .slice pb b.length cb, .slice pk ks.length ck] 28) = W0 at A0 B0 N1 ⊢
  refine N1.out.mono ?_
  rintro e w1 ⟨g1, gl1, rfl, gh1, gb1⟩
  have A1 : Hid (At5 w1 w.heap.size 0 (.int .i64 k) (.int .i64 s) (.int .i64 n) (.slice pb b.length cb) (.slice pk ks.length ck)) := A0.out.below gb1
  have B1 : Hid (Below w.heap.size w w1) := B0.out.trans (gb1.mono B0.out.size)
  have G1 : Hid (w.heap.size ≤ g1) := Nat.le_trans B0.out.size gl1
  obtain ⟨l1, hl1⟩ : ∃ l, l = enc k.toNat := ⟨_, rfl⟩
  rw [← hl1] at gh1 ⊢
  have H1 : Hid (Lib.HoldsBytes w1 (.slice (some ⟨g1, 0, none⟩) l1.length l1.length) l1) := gh1
  have L1 : Hid (l1 = enc k.toNat) := hl1
  obtain ⟨h0, h1, h2, h3, h4⟩ := A1.out
  clear gl1 gb1 gh1 hl1 N1
  have N2 : Hid (Calls Try.prog 56 #[.slice (some ⟨g1, 0, none⟩) l1.length l1.length, .int .i64 s] w1 (NB w1 (l1 ++ enc (s).toNat))) := num_calls _ l1 s (by have := (IS.out).2; omega) _ H1.out (by have e := E1.out; rw [← L1.out] at e; omega)
  go_wp2_with fail
  refine N2.out.mono ?_
  rintro e w2 ⟨g2, gl2, rfl, gh2, gb2⟩
  have A2 : Hid (At5 w2 w.heap.size 0 (.int .i64 k) (.int .i64 s) (.int .i64 n) (.slice pb b.length cb) (.slice pk ks.length ck)) := A1.out.below gb2
  have B2 : Hid (Below w.heap.size w w2) := B1.out.trans (gb2.mono B1.out.size)
  have G2 : Hid (w.heap.size ≤ g2) := Nat.le_trans B1.out.size gl2
  obtain ⟨l2, hl2⟩ : ∃ l, l = l1 ++ enc s.toNat := ⟨_, rfl⟩
  rw [← hl2] at gh2 ⊢
  have H2 : Hid (Lib.HoldsBytes w2 (.slice (some ⟨g2, 0, none⟩) l2.length l2.length) l2) := gh2
  have L2 : Hid (l2 = l1 ++ enc s.toNat) := hl2
  obtain ⟨h0, h1, h2, h3, h4⟩ := A2.out
  clear gl2 gb2 gh2 hl2 N2
  have HBx : Hid (Lib.HoldsBytes w2 (.slice pb b.length cb) b) := (H0.out.1.below B2.out).bytes
  have hcv := conv_string w2 pb cb b HBx.out
  rw [str_nums] at hcv
  have hsz : (str b).size = b.length := by simp [str, ByteArray.size]
  have hbl : b.length ≤ 16384 := by have h1 := MF.out.b; have h2 := mst_le (f := fld k) (c := 4) (m := 16384) (by decide); dsimp only at h1; omega
  have N3 : Hid (Calls Try.prog 31 #[.slice (some ⟨g2, 0, none⟩) l2.length l2.length, .string (str b)] w2 (NB w2 (l2 ++ enc b.length ++ b))) := by
    have h := text_calls _ l2 (str b) w2 H2.out (by rw [hsz]; omega) (by rw [hsz]; have e := E1.out; have e2 := enc_short s IS.out; rw [L2.out, List.length_append, L1.out]; omega)
    rw [hsz] at h
    have e : (str b).data.toList = b := by simp [str]
    rwa [e] at h
  clear hsz hbl
  go_wp2_with fail
  refine N3.out.mono ?_
  rintro e w3 ⟨g3, gl3, rfl, gh3, gb3⟩
  have A3 : Hid (At5 w3 w.heap.size 0 (.int .i64 k) (.int .i64 s) (.int .i64 n) (.slice pb b.length cb) (.slice pk ks.length ck)) := A2.out.below gb3
  have B3 : Hid (Below w.heap.size w w3) := B2.out.trans (gb3.mono B2.out.size)
  have G3 : Hid (w.heap.size ≤ g3) := Nat.le_trans B2.out.size gl3
  obtain ⟨l3, hl3⟩ : ∃ l, l = l2 ++ enc b.length ++ b := ⟨_, rfl⟩
  rw [← hl3] at gh3 ⊢
  have H3 : Hid (Lib.HoldsBytes w3 (.slice (some ⟨g3, 0, none⟩) l3.length l3.length) l3) := gh3
  have L3 : Hid (l3 = l2 ++ enc b.length ++ b) := hl3
  obtain ⟨h0, h1, h2, h3, h4⟩ := A3.out
  clear gl3 gb3 gh3 hl3 N3
  go_wp2_with fail
  go_ret
  rw [← L1.out, ← L2.out, ← L3.out]
  exact ⟨g3, G3.out, rfl, H3.out, B3.out⟩
set_option maxHeartbeats 4000000 in
set_option maxRecDepth 100000 in
theorem put17_calls (P : Nat → Prop) (x : Sp) (vb vk : Value) (w : World) (h : IsV P w vb vk x) (wf : WfS x) (hm : MayF x) (hf : fld x.k = 17) :
    Calls Try.prog 32 #[.agg (rowS vb vk x)] w (NB w (putF 17 x)) := by
  obtain ⟨pb, cb, rfl, _⟩ := h.1.shape
  obtain ⟨pk, ck, rfl, _⟩ := h.2.shape
  obtain ⟨k, s, n, b, ks⟩ := x
  have H0 : Hid (IsV P w (.slice pb b.length cb) (.slice pk ks.length ck) ⟨k, s, n, b, ks⟩) := h
  have WF : Hid (WfS ⟨k, s, n, b, ks⟩) := wf
  have MF : Hid (MayF ⟨k, s, n, b, ks⟩) := hm
  have HF : Hid (fld k = 17) := hf
  have IS : Hid (In s) := wf.2.1
  have INn : Hid (In n) := wf.2.2.1
  have CF : Hid (∀ W, Calls Try.prog 42 #[.int .i64 k] W fun e w' => e = .returned (.int .i64 17) ∧ w' = W) := fun W => by have := fields_calls k W; rwa [HF.out] at this
  have b2 : (bits .and .i64 17 2 != 0) = false := by decide
  have b4 : (bits .and .i64 17 4 != 0) = false := by decide
  have b8 : (bits .and .i64 17 8 != 0) = false := by decide
  have b16 : (bits .and .i64 17 16 != 0) = true := by decide
  unfold rowS putF
  rw [if_neg (by decide), if_neg (by decide), if_neg (by decide), if_pos rfl]
  dsimp only
  obtain ⟨h0, h1, h2, h3, h4⟩ := box_at w (.int .i64 k) (.int .i64 s) (.int .i64 n) (.slice pb b.length cb) (.slice pk ks.length ck)
  have A0 : Hid (At5 (w.alloc (.cells #[.int .i64 k, .int .i64 s, .int .i64 n, .slice pb b.length cb, .slice pk ks.length ck] 28)) w.heap.size 0 (.int .i64 k) (.int .i64 s) (.int .i64 n) (.slice pb b.length cb) (.slice pk ks.length ck)) := box_at w _ _ _ _ _
  have B0 : Hid (Below w.heap.size w (w.alloc (.cells #[.int .i64 k, .int .i64 s, .int .i64 n, .slice pb b.length cb, .slice pk ks.length ck] 28))) := bel1 w _
  have N1 : Hid (Calls Try.prog 56 #[.slice none 0 0, .int .i64 k] (w.alloc (.cells #[.int .i64 k, .int .i64 s, .int .i64 n, .slice pb b.length cb, .slice pk ks.length ck] 28)) (NB _ (enc k.toNat))) := num_calls (.slice none 0 0) [] k (by have := WF.out.1.2; dsimp only at this; omega) _ (holds_nil _) (by simp)
  have E1 : Hid ((enc k.toNat).length ≤ 9) := enc_short k WF.out.1
  clear h wf hm hf
  go_enter Try.func32, Try.ntmps32
  go_wp2_with fail
  refine (CF.out _).mono ?_
  rintro e w1 ⟨rfl, hw1⟩
  rw [hw1]
  clear hw1 CF
  go_wp2_with fail
  generalize w.alloc (.cells #[.int .i64 k, .int .i64 s, .int .i64 n, .slice pb b.length cb, .slice pk ks.length ck] 28) = W0 at A0 B0 N1 ⊢
  refine N1.out.mono ?_
  rintro e w1 ⟨g1, gl1, rfl, gh1, gb1⟩
  have A1 : Hid (At5 w1 w.heap.size 0 (.int .i64 k) (.int .i64 s) (.int .i64 n) (.slice pb b.length cb) (.slice pk ks.length ck)) := A0.out.below gb1
  have B1 : Hid (Below w.heap.size w w1) := B0.out.trans (gb1.mono B0.out.size)
  have G1 : Hid (w.heap.size ≤ g1) := Nat.le_trans B0.out.size gl1
  obtain ⟨l1, hl1⟩ : ∃ l, l = enc k.toNat := ⟨_, rfl⟩
  rw [← hl1] at gh1 ⊢
  have H1 : Hid (Lib.HoldsBytes w1 (.slice (some ⟨g1, 0, none⟩) l1.length l1.length) l1) := gh1
  have L1 : Hid (l1 = enc k.toNat) := hl1
  obtain ⟨h0, h1, h2, h3, h4⟩ := A1.out
  clear gl1 gb1 gh1 hl1 N1
  have HM : Hid (ks.length ≤ 64) := by show _ ≤ _; have h1 := MF.out.l; have h2 := mst_le (f := fld k) (c := 16) (m := 64) (by decide); dsimp only at h1; omega
  have N2 : Hid (Calls Try.prog 56 #[.slice (some ⟨g1, 0, none⟩) l1.length l1.length, .int .i64 (ks.length : Int)] w1 (NB w1 (l1 ++ enc ks.length))) := by
    have h := num_calls _ l1 (ks.length : Int) (by have := HM.out; omega) w1 H1.out (by have e := E1.out; rw [← L1.out] at e; omega)
    rwa [Int.toNat_natCast] at h
  go_wp2_with fail
  refine N2.out.mono ?_
  rintro e w2 ⟨g2, gl2, rfl, gh2, gb2⟩
  have A2 : Hid (At5 w2 w.heap.size 0 (.int .i64 k) (.int .i64 s) (.int .i64 n) (.slice pb b.length cb) (.slice pk ks.length ck)) := A1.out.below gb2
  have B2 : Hid (Below w.heap.size w w2) := B1.out.trans (gb2.mono B1.out.size)
  have G2 : Hid (w.heap.size ≤ g2) := Nat.le_trans B1.out.size gl2
  obtain ⟨l2, hl2⟩ : ∃ l, l = l1 ++ enc ks.length := ⟨_, rfl⟩
  rw [← hl2] at gh2 ⊢
  have H2 : Hid (Lib.HoldsBytes w2 (.slice (some ⟨g2, 0, none⟩) l2.length l2.length) l2) := gh2
  have L2 : Hid (l2 = l1 ++ enc ks.length) := hl2
  obtain ⟨h0, h1, h2, h3, h4⟩ := A2.out
  clear gl2 gb2 gh2 hl2 N2
  have HKS : Hid (∀ (i : Nat) z, ks[i]? = some z → ∃ B o, pk = some ⟨B, o, none⟩ ∧ w.cell? ⟨B, o + i, none⟩ = some (.int .i64 z)) := fun i z hz => by
    obtain ⟨p, c, e, _, _, hh⟩ := H0.out.2
    cases e
    obtain ⟨B, o, e1, _, e2⟩ := hh i z hz
    exact ⟨B, o, e1, e2⟩
  obtain ⟨N, hN⟩ : ∃ N, N = ks.length := ⟨_, rfl⟩
  rw [← hN] at h4 ⊢
  have HN : Hid (N = ks.length) := hN
  have LL : Hid (l2.length ≤ 18) := by show _ ≤ _; have e := E1.out; have e2 := enc_short (ks.length : Int) ⟨by omega, by have := HM.out; omega⟩; rw [Int.toNat_natCast] at e2; rw [L2.out, List.length_append, L1.out]; omega
  clear hN
  go_wp2_with fail
  go_loopw [4, 6, 46] (fun u _ i wr => ∃ (j g : Nat) (l : List UInt8), j ≤ N ∧ i = .int .i64 (j : Int) ∧ u = .slice (some ⟨g, 0, none⟩) l.length l.length ∧ Hid (w.heap.size ≤ g) ∧ Hid (l = l2 ++ ens (ks.take j)) ∧ Hid (Lib.HoldsBytes wr (.slice (some ⟨g, 0, none⟩) l.length l.length) l) ∧ Hid (Below w.heap.size w wr)) (fun _ _ i _ => N - (intOf i).toNat)
  case atStart => exact ⟨0, g2, l2, Nat.zero_le _, rfl, rfl, G2, (by show _ = _; simp [ens]), H2, B2⟩
  case round =>
    obtain ⟨j, g, l, hj, rfl, rfl, HG, HL, HH, HB⟩ := hrel
    by_cases hlt : j < N
    · have hjl : (j : Int) < (N : Int) := by omega
      obtain ⟨z, hz⟩ : ∃ z, ks[j]? = some z := ⟨_, List.getElem?_eq_getElem (by have := HN.out; omega)⟩
      obtain ⟨B, o, rfl, hcl0⟩ := HKS.out j z hz
      have hcl := Lib.Below.cellOf (HB.out) hcl0 (Nat.le_refl _)
      have HZ : Hid (ks[j]? = some z) := hz
      have INz : Hid (In z) := WF.out.2.2.2 z (List.mem_of_getElem? hz)
      have NC : Hid (Calls Try.prog 56 #[.slice (some ⟨g, 0, none⟩) l.length l.length, .int .i64 z] wr (NB wr (l ++ enc z.toNat))) := num_calls _ l z (by have := INz.out.2; omega) wr HH.out (by
        have e1 := ens_len (ks.take j) (fun y hy => WF.out.2.2.2 y (List.mem_of_mem_take hy))
        have e2 := LL.out
        have e3 := HM.out
        rw [HL.out, List.length_append]
        rw [List.length_take] at e1
        omega)
      have HW : Hid (wrap64 ((j : Int) + 1) = ((j + 1 : Nat) : Int)) := wr1 hlt (by have := HM.out; have := HN.out; omega)
      clear hz hcl0
      go_wp2_with fail
      refine NC.out.mono ?_
      rintro e w3 ⟨g3, gl3, rfl, gh3, gb3⟩
      have B3 : Hid (Below w.heap.size w w3) := HB.out.trans (gb3.mono HB.out.size)
      have G3 : Hid (w.heap.size ≤ g3) := Nat.le_trans HB.out.size gl3
      have H3 : Hid (Lib.HoldsBytes w3 _ (l ++ enc z.toNat)) := gh3
      have L3 : Hid (l ++ enc z.toNat = l2 ++ ens (ks.take (j + 1))) := by
        show _ = _
        rw [HL.out, List.take_add_one, HZ.out]
        simp [ens]
      clear gl3 gh3 gb3 NC
      go_wp2_with fail
      refine ⟨⟨j + 1, g3, l ++ enc z.toNat, hlt, by rw [HW.out], by rw [List.length_append], G3, L3, H3, B3⟩, meas hlt HW.out⟩
    · obtain rfl : j = N := by omega
      have L3 : Hid (l = l2 ++ ens ks) := by show _ = _; rw [HL.out, HN.out, List.take_length]
      go_wp2_with fail
      go_ret
      rw [← L1.out, ← L2.out, ← L3.out]
      exact ⟨g, HG.out, rfl, HH.out, HB.out⟩
theorem put_calls (P : Nat → Prop) (x : Sp) (vb vk : Value) (w : World) (h : IsV P w vb vk x) (wf : WfS x) (hm : mayB x = true) :
    Calls Try.prog 32 #[.agg (rowS vb vk x)] w (NB w (putS x)) := by
  have m := may_of hm
  unfold putS
  rcases fld_is x.k with e | e | e | e | e | e
  · rw [e]; exact put7_calls P x vb vk w h wf m e
  · rw [e]; exact put3_calls P x vb vk w h wf m e
  · rw [e]; exact put9_calls P x vb vk w h wf m e
  · rw [e]; exact put17_calls P x vb vk w h wf m e
  · rw [e]; exact put1_calls P x vb vk w h wf m e
  · exact absurd e m.f0
end Go.Proofs.Ytimiklekajelfaa
