/- The contract of the reference's one. -/
import Derived.Test.YtimiklekajelfaaSS
import Derived.Test.YtimiklekajelfaaPP
namespace Go.Proofs.Ytimiklekajelfaa
open Go.ChangeShapes Go.WideShapes Go.ChangeAt Go.RowKit
/-- What the reference's Text does behind the number. -/
theorem ref7 {p2 : Option Addr} {c2 : Nat} {l : List UInt8} (b : List UInt8) (w2 : World) (hl : l.length ≤ 100) (hb : b.length ≤ 16384) (H2 : Lib.HoldsBytes w2 (.slice p2 l.length c2) l) :
    Calls Try.prog 33 #[.slice p2 l.length c2, .string (str b)] w2 (RB w2 (l ++ enc b.length ++ b)) := by
  have hsz : (str b).size = b.length := by simp [str, ByteArray.size]
  have hd : (str b).data.toList = b := by simp [str]
  have h := refText_calls (.slice p2 l.length c2) l (str b) w2 H2 (by omega) (by rw [hsz]; omega)
  rwa [hsz, hd] at h
set_option maxHeartbeats 4000000 in
set_option maxRecDepth 100000 in
theorem one5_calls (P : Nat → Prop) (s n : Int) (b : List UInt8) (ks : List Int) (vb vk : Value) (w : World) (h : IsV P w vb vk ⟨5, s, n, b, ks⟩) (wf : WfS ⟨5, s, n, b, ks⟩) (hm : MayF ⟨5, s, n, b, ks⟩) :
    Calls Try.prog 34 #[.agg (rowS vb vk ⟨5, s, n, b, ks⟩)] w fun e w' => e = .returned (.string (str (putF 1 ⟨5, s, n, b, ks⟩))) ∧ Below w.heap.size w w' := by
  obtain ⟨pb, cb, rfl, _⟩ := h.1.shape
  obtain ⟨pk, ck, rfl, _⟩ := h.2.shape
  have H0 : Hid (IsV P w (.slice pb b.length cb) (.slice pk ks.length ck) ⟨5, s, n, b, ks⟩) := h
  have WF : Hid (WfS ⟨5, s, n, b, ks⟩) := wf
  have MF : Hid (MayF ⟨5, s, n, b, ks⟩) := hm
  have IS : Hid (In s) := wf.2.1
  have INn : Hid (In n) := wf.2.2.1
  unfold rowS putF
  rw [if_neg (by decide), if_neg (by decide), if_neg (by decide), if_neg (by decide)]
  dsimp only
  obtain ⟨h0, h1, h2, h3, h4⟩ := box_at w (.int .i64 5) (.int .i64 s) (.int .i64 n) (.slice pb b.length cb) (.slice pk ks.length ck)
  have A0 : Hid (At5 (w.alloc (.cells #[.int .i64 5, .int .i64 s, .int .i64 n, .slice pb b.length cb, .slice pk ks.length ck] 28)) w.heap.size 0 (.int .i64 5) (.int .i64 s) (.int .i64 n) (.slice pb b.length cb) (.slice pk ks.length ck)) := box_at w _ _ _ _ _
  have B0 : Hid (Below w.heap.size w (w.alloc (.cells #[.int .i64 5, .int .i64 s, .int .i64 n, .slice pb b.length cb, .slice pk ks.length ck] 28))) := bel1 w _
  have N1 : Hid (Calls Try.prog 57 #[.slice none 0 0, .int .i64 5] (w.alloc (.cells #[.int .i64 5, .int .i64 s, .int .i64 n, .slice pb b.length cb, .slice pk ks.length ck] 28)) (RB _ (enc (5 : Int).toNat))) := refNum_calls (.slice none 0 0) [] 5 (by decide) _ (holds_nil _) (by simp)
  have E1 : Hid ((enc (5 : Int).toNat).length ≤ 9) := enc_short 5 WF.out.1
  clear h wf hm
  go_enter Try.func34, Try.ntmps34
  go_wp2_with fail
  generalize w.alloc (.cells #[.int .i64 5, .int .i64 s, .int .i64 n, .slice pb b.length cb, .slice pk ks.length ck] 28) = W0 at A0 B0 N1 ⊢
  refine N1.out.mono ?_
  rintro e w1 ⟨v1, rfl, go1, gb1⟩
  have A1 : Hid (At5 w1 w.heap.size 0 (.int .i64 5) (.int .i64 s) (.int .i64 n) (.slice pb b.length cb) (.slice pk ks.length ck)) := A0.out.below gb1
  have B1 : Hid (Below w.heap.size w w1) := B0.out.trans (gb1.mono B0.out.size)
  obtain ⟨l1, hl1⟩ : ∃ l, l = enc (5 : Int).toNat := ⟨_, rfl⟩
  rw [← hl1] at go1
  have H1 : Hid (Lib.HoldsBytes w1 v1 l1) := own_holds go1
  have L1 : Hid (l1 = enc (5 : Int).toNat) := hl1
  obtain ⟨p1, c1, rfl⟩ := go1.shp
  obtain ⟨h0, h1, h2, h3, h4⟩ := A1.out
  clear go1 gb1 hl1 N1
  have hcv := conv_string w1 p1 c1 l1 H1.out
  rw [str_nums] at hcv
  go_upto_region 17 with fail
  go_wp2_with fail
  go_ret
  rw [← L1.out]
  exact ⟨rfl, B1.out⟩
set_option maxHeartbeats 4000000 in
set_option maxRecDepth 100000 in
theorem one7_calls (P : Nat → Prop) (s n : Int) (b : List UInt8) (ks : List Int) (vb vk : Value) (w : World) (h : IsV P w vb vk ⟨7, s, n, b, ks⟩) (wf : WfS ⟨7, s, n, b, ks⟩) (hm : MayF ⟨7, s, n, b, ks⟩) :
    Calls Try.prog 34 #[.agg (rowS vb vk ⟨7, s, n, b, ks⟩)] w fun e w' => e = .returned (.string (str (putF 1 ⟨7, s, n, b, ks⟩))) ∧ Below w.heap.size w w' := by
  obtain ⟨pb, cb, rfl, _⟩ := h.1.shape
  obtain ⟨pk, ck, rfl, _⟩ := h.2.shape
  have H0 : Hid (IsV P w (.slice pb b.length cb) (.slice pk ks.length ck) ⟨7, s, n, b, ks⟩) := h
  have WF : Hid (WfS ⟨7, s, n, b, ks⟩) := wf
  have MF : Hid (MayF ⟨7, s, n, b, ks⟩) := hm
  have IS : Hid (In s) := wf.2.1
  have INn : Hid (In n) := wf.2.2.1
  unfold rowS putF
  rw [if_neg (by decide), if_neg (by decide), if_neg (by decide), if_neg (by decide)]
  dsimp only
  obtain ⟨h0, h1, h2, h3, h4⟩ := box_at w (.int .i64 7) (.int .i64 s) (.int .i64 n) (.slice pb b.length cb) (.slice pk ks.length ck)
  have A0 : Hid (At5 (w.alloc (.cells #[.int .i64 7, .int .i64 s, .int .i64 n, .slice pb b.length cb, .slice pk ks.length ck] 28)) w.heap.size 0 (.int .i64 7) (.int .i64 s) (.int .i64 n) (.slice pb b.length cb) (.slice pk ks.length ck)) := box_at w _ _ _ _ _
  have B0 : Hid (Below w.heap.size w (w.alloc (.cells #[.int .i64 7, .int .i64 s, .int .i64 n, .slice pb b.length cb, .slice pk ks.length ck] 28))) := bel1 w _
  have N1 : Hid (Calls Try.prog 57 #[.slice none 0 0, .int .i64 7] (w.alloc (.cells #[.int .i64 7, .int .i64 s, .int .i64 n, .slice pb b.length cb, .slice pk ks.length ck] 28)) (RB _ (enc (7 : Int).toNat))) := refNum_calls (.slice none 0 0) [] 7 (by decide) _ (holds_nil _) (by simp)
  have E1 : Hid ((enc (7 : Int).toNat).length ≤ 9) := enc_short 7 WF.out.1
  clear h wf hm
  go_enter Try.func34, Try.ntmps34
  go_wp2_with fail
  generalize w.alloc (.cells #[.int .i64 7, .int .i64 s, .int .i64 n, .slice pb b.length cb, .slice pk ks.length ck] 28) = W0 at A0 B0 N1 ⊢
  refine N1.out.mono ?_
  rintro e w1 ⟨v1, rfl, go1, gb1⟩
  have A1 : Hid (At5 w1 w.heap.size 0 (.int .i64 7) (.int .i64 s) (.int .i64 n) (.slice pb b.length cb) (.slice pk ks.length ck)) := A0.out.below gb1
  have B1 : Hid (Below w.heap.size w w1) := B0.out.trans (gb1.mono B0.out.size)
  obtain ⟨l1, hl1⟩ : ∃ l, l = enc (7 : Int).toNat := ⟨_, rfl⟩
  rw [← hl1] at go1
  have H1 : Hid (Lib.HoldsBytes w1 v1 l1) := own_holds go1
  have L1 : Hid (l1 = enc (7 : Int).toNat) := hl1
  obtain ⟨p1, c1, rfl⟩ := go1.shp
  obtain ⟨h0, h1, h2, h3, h4⟩ := A1.out
  clear go1 gb1 hl1 N1
  have hcv := conv_string w1 p1 c1 l1 H1.out
  rw [str_nums] at hcv
  go_upto_region 17 with fail
  go_wp2_with fail
  go_ret
  rw [← L1.out]
  exact ⟨rfl, B1.out⟩
set_option maxHeartbeats 4000000 in
set_option maxRecDepth 100000 in
theorem one2_calls (P : Nat → Prop) (s n : Int) (b : List UInt8) (ks : List Int) (vb vk : Value) (w : World) (h : IsV P w vb vk ⟨2, s, n, b, ks⟩) (wf : WfS ⟨2, s, n, b, ks⟩) (hm : MayF ⟨2, s, n, b, ks⟩) :
    Calls Try.prog 34 #[.agg (rowS vb vk ⟨2, s, n, b, ks⟩)] w fun e w' => e = .returned (.string (str (putF 3 ⟨2, s, n, b, ks⟩))) ∧ Below w.heap.size w w' := by
  obtain ⟨pb, cb, rfl, _⟩ := h.1.shape
  obtain ⟨pk, ck, rfl, _⟩ := h.2.shape
  have H0 : Hid (IsV P w (.slice pb b.length cb) (.slice pk ks.length ck) ⟨2, s, n, b, ks⟩) := h
  have WF : Hid (WfS ⟨2, s, n, b, ks⟩) := wf
  have MF : Hid (MayF ⟨2, s, n, b, ks⟩) := hm
  have IS : Hid (In s) := wf.2.1
  have INn : Hid (In n) := wf.2.2.1
  unfold rowS putF
  rw [if_neg (by decide), if_pos rfl]
  dsimp only
  obtain ⟨h0, h1, h2, h3, h4⟩ := box_at w (.int .i64 2) (.int .i64 s) (.int .i64 n) (.slice pb b.length cb) (.slice pk ks.length ck)
  have A0 : Hid (At5 (w.alloc (.cells #[.int .i64 2, .int .i64 s, .int .i64 n, .slice pb b.length cb, .slice pk ks.length ck] 28)) w.heap.size 0 (.int .i64 2) (.int .i64 s) (.int .i64 n) (.slice pb b.length cb) (.slice pk ks.length ck)) := box_at w _ _ _ _ _
  have B0 : Hid (Below w.heap.size w (w.alloc (.cells #[.int .i64 2, .int .i64 s, .int .i64 n, .slice pb b.length cb, .slice pk ks.length ck] 28))) := bel1 w _
  have N1 : Hid (Calls Try.prog 57 #[.slice none 0 0, .int .i64 2] (w.alloc (.cells #[.int .i64 2, .int .i64 s, .int .i64 n, .slice pb b.length cb, .slice pk ks.length ck] 28)) (RB _ (enc (2 : Int).toNat))) := refNum_calls (.slice none 0 0) [] 2 (by decide) _ (holds_nil _) (by simp)
  have E1 : Hid ((enc (2 : Int).toNat).length ≤ 9) := enc_short 2 WF.out.1
  clear h wf hm
  go_enter Try.func34, Try.ntmps34
  go_wp2_with fail
  generalize w.alloc (.cells #[.int .i64 2, .int .i64 s, .int .i64 n, .slice pb b.length cb, .slice pk ks.length ck] 28) = W0 at A0 B0 N1 ⊢
  refine N1.out.mono ?_
  rintro e w1 ⟨v1, rfl, go1, gb1⟩
  have A1 : Hid (At5 w1 w.heap.size 0 (.int .i64 2) (.int .i64 s) (.int .i64 n) (.slice pb b.length cb) (.slice pk ks.length ck)) := A0.out.below gb1
  have B1 : Hid (Below w.heap.size w w1) := B0.out.trans (gb1.mono B0.out.size)
  obtain ⟨l1, hl1⟩ : ∃ l, l = enc (2 : Int).toNat := ⟨_, rfl⟩
  rw [← hl1] at go1
  have H1 : Hid (Lib.HoldsBytes w1 v1 l1) := own_holds go1
  have L1 : Hid (l1 = enc (2 : Int).toNat) := hl1
  obtain ⟨p1, c1, rfl⟩ := go1.shp
  obtain ⟨h0, h1, h2, h3, h4⟩ := A1.out
  clear go1 gb1 hl1 N1
  have N2 : Hid (Calls Try.prog 57 #[.slice p1 l1.length c1, .int .i64 s] w1 (RB w1 (l1 ++ enc (s).toNat))) := refNum_calls _ l1 s (by have := (IS.out).2; omega) _ H1.out (by have e := E1.out; rw [← L1.out] at e; omega)
  go_wp2_with fail
  refine N2.out.mono ?_
  rintro e w2 ⟨v2, rfl, go2, gb2⟩
  have A2 : Hid (At5 w2 w.heap.size 0 (.int .i64 2) (.int .i64 s) (.int .i64 n) (.slice pb b.length cb) (.slice pk ks.length ck)) := A1.out.below gb2
  have B2 : Hid (Below w.heap.size w w2) := B1.out.trans (gb2.mono B1.out.size)
  obtain ⟨l2, hl2⟩ : ∃ l, l = l1 ++ enc s.toNat := ⟨_, rfl⟩
  rw [← hl2] at go2
  have H2 : Hid (Lib.HoldsBytes w2 v2 l2) := own_holds go2
  have L2 : Hid (l2 = l1 ++ enc s.toNat) := hl2
  obtain ⟨p2, c2, rfl⟩ := go2.shp
  obtain ⟨h0, h1, h2, h3, h4⟩ := A2.out
  clear go2 gb2 hl2 N2
  have hcv := conv_string w2 p2 c2 l2 H2.out
  rw [str_nums] at hcv
  go_upto_region 17 with fail
  go_wp2_with fail
  go_ret
  rw [← L1.out, ← L2.out]
  exact ⟨rfl, B2.out⟩
set_option maxHeartbeats 4000000 in
set_option maxRecDepth 100000 in
theorem one3_calls (P : Nat → Prop) (s n : Int) (b : List UInt8) (ks : List Int) (vb vk : Value) (w : World) (h : IsV P w vb vk ⟨3, s, n, b, ks⟩) (wf : WfS ⟨3, s, n, b, ks⟩) (hm : MayF ⟨3, s, n, b, ks⟩) :
    Calls Try.prog 34 #[.agg (rowS vb vk ⟨3, s, n, b, ks⟩)] w fun e w' => e = .returned (.string (str (putF 9 ⟨3, s, n, b, ks⟩))) ∧ Below w.heap.size w w' := by
  obtain ⟨pb, cb, rfl, _⟩ := h.1.shape
  obtain ⟨pk, ck, rfl, _⟩ := h.2.shape
  have H0 : Hid (IsV P w (.slice pb b.length cb) (.slice pk ks.length ck) ⟨3, s, n, b, ks⟩) := h
  have WF : Hid (WfS ⟨3, s, n, b, ks⟩) := wf
  have MF : Hid (MayF ⟨3, s, n, b, ks⟩) := hm
  have IS : Hid (In s) := wf.2.1
  have INn : Hid (In n) := wf.2.2.1
  unfold rowS putF
  rw [if_neg (by decide), if_neg (by decide), if_pos rfl]
  dsimp only
  obtain ⟨h0, h1, h2, h3, h4⟩ := box_at w (.int .i64 3) (.int .i64 s) (.int .i64 n) (.slice pb b.length cb) (.slice pk ks.length ck)
  have A0 : Hid (At5 (w.alloc (.cells #[.int .i64 3, .int .i64 s, .int .i64 n, .slice pb b.length cb, .slice pk ks.length ck] 28)) w.heap.size 0 (.int .i64 3) (.int .i64 s) (.int .i64 n) (.slice pb b.length cb) (.slice pk ks.length ck)) := box_at w _ _ _ _ _
  have B0 : Hid (Below w.heap.size w (w.alloc (.cells #[.int .i64 3, .int .i64 s, .int .i64 n, .slice pb b.length cb, .slice pk ks.length ck] 28))) := bel1 w _
  have N1 : Hid (Calls Try.prog 57 #[.slice none 0 0, .int .i64 3] (w.alloc (.cells #[.int .i64 3, .int .i64 s, .int .i64 n, .slice pb b.length cb, .slice pk ks.length ck] 28)) (RB _ (enc (3 : Int).toNat))) := refNum_calls (.slice none 0 0) [] 3 (by decide) _ (holds_nil _) (by simp)
  have E1 : Hid ((enc (3 : Int).toNat).length ≤ 9) := enc_short 3 WF.out.1
  clear h wf hm
  go_enter Try.func34, Try.ntmps34
  go_wp2_with fail
  generalize w.alloc (.cells #[.int .i64 3, .int .i64 s, .int .i64 n, .slice pb b.length cb, .slice pk ks.length ck] 28) = W0 at A0 B0 N1 ⊢
  refine N1.out.mono ?_
  rintro e w1 ⟨v1, rfl, go1, gb1⟩
  have A1 : Hid (At5 w1 w.heap.size 0 (.int .i64 3) (.int .i64 s) (.int .i64 n) (.slice pb b.length cb) (.slice pk ks.length ck)) := A0.out.below gb1
  have B1 : Hid (Below w.heap.size w w1) := B0.out.trans (gb1.mono B0.out.size)
  obtain ⟨l1, hl1⟩ : ∃ l, l = enc (3 : Int).toNat := ⟨_, rfl⟩
  rw [← hl1] at go1
  have H1 : Hid (Lib.HoldsBytes w1 v1 l1) := own_holds go1
  have L1 : Hid (l1 = enc (3 : Int).toNat) := hl1
  obtain ⟨p1, c1, rfl⟩ := go1.shp
  obtain ⟨h0, h1, h2, h3, h4⟩ := A1.out
  clear go1 gb1 hl1 N1
  have N2 : Hid (Calls Try.prog 57 #[.slice p1 l1.length c1, .int .i64 n] w1 (RB w1 (l1 ++ enc (n).toNat))) := refNum_calls _ l1 n (by have := (INn.out).2; omega) _ H1.out (by have e := E1.out; rw [← L1.out] at e; omega)
  go_wp2_with fail
  refine N2.out.mono ?_
  rintro e w2 ⟨v2, rfl, go2, gb2⟩
  have A2 : Hid (At5 w2 w.heap.size 0 (.int .i64 3) (.int .i64 s) (.int .i64 n) (.slice pb b.length cb) (.slice pk ks.length ck)) := A1.out.below gb2
  have B2 : Hid (Below w.heap.size w w2) := B1.out.trans (gb2.mono B1.out.size)
  obtain ⟨l2, hl2⟩ : ∃ l, l = l1 ++ enc n.toNat := ⟨_, rfl⟩
  rw [← hl2] at go2
  have H2 : Hid (Lib.HoldsBytes w2 v2 l2) := own_holds go2
  have L2 : Hid (l2 = l1 ++ enc n.toNat) := hl2
  obtain ⟨p2, c2, rfl⟩ := go2.shp
  obtain ⟨h0, h1, h2, h3, h4⟩ := A2.out
  clear go2 gb2 hl2 N2
  have hcv := conv_string w2 p2 c2 l2 H2.out
  rw [str_nums] at hcv
  go_upto_region 17 with fail
  go_wp2_with fail
  go_ret
  rw [← L1.out, ← L2.out]
  exact ⟨rfl, B2.out⟩
set_option maxHeartbeats 4000000 in
set_option maxRecDepth 100000 in
theorem one6_calls (P : Nat → Prop) (s n : Int) (b : List UInt8) (ks : List Int) (vb vk : Value) (w : World) (h : IsV P w vb vk ⟨6, s, n, b, ks⟩) (wf : WfS ⟨6, s, n, b, ks⟩) (hm : MayF ⟨6, s, n, b, ks⟩) :
    Calls Try.prog 34 #[.agg (rowS vb vk ⟨6, s, n, b, ks⟩)] w fun e w' => e = .returned (.string (str (putF 9 ⟨6, s, n, b, ks⟩))) ∧ Below w.heap.size w w' := by
  obtain ⟨pb, cb, rfl, _⟩ := h.1.shape
  obtain ⟨pk, ck, rfl, _⟩ := h.2.shape
  have H0 : Hid (IsV P w (.slice pb b.length cb) (.slice pk ks.length ck) ⟨6, s, n, b, ks⟩) := h
  have WF : Hid (WfS ⟨6, s, n, b, ks⟩) := wf
  have MF : Hid (MayF ⟨6, s, n, b, ks⟩) := hm
  have IS : Hid (In s) := wf.2.1
  have INn : Hid (In n) := wf.2.2.1
  unfold rowS putF
  rw [if_neg (by decide), if_neg (by decide), if_pos rfl]
  dsimp only
  obtain ⟨h0, h1, h2, h3, h4⟩ := box_at w (.int .i64 6) (.int .i64 s) (.int .i64 n) (.slice pb b.length cb) (.slice pk ks.length ck)
  have A0 : Hid (At5 (w.alloc (.cells #[.int .i64 6, .int .i64 s, .int .i64 n, .slice pb b.length cb, .slice pk ks.length ck] 28)) w.heap.size 0 (.int .i64 6) (.int .i64 s) (.int .i64 n) (.slice pb b.length cb) (.slice pk ks.length ck)) := box_at w _ _ _ _ _
  have B0 : Hid (Below w.heap.size w (w.alloc (.cells #[.int .i64 6, .int .i64 s, .int .i64 n, .slice pb b.length cb, .slice pk ks.length ck] 28))) := bel1 w _
  have N1 : Hid (Calls Try.prog 57 #[.slice none 0 0, .int .i64 6] (w.alloc (.cells #[.int .i64 6, .int .i64 s, .int .i64 n, .slice pb b.length cb, .slice pk ks.length ck] 28)) (RB _ (enc (6 : Int).toNat))) := refNum_calls (.slice none 0 0) [] 6 (by decide) _ (holds_nil _) (by simp)
  have E1 : Hid ((enc (6 : Int).toNat).length ≤ 9) := enc_short 6 WF.out.1
  clear h wf hm
  go_enter Try.func34, Try.ntmps34
  go_wp2_with fail
  generalize w.alloc (.cells #[.int .i64 6, .int .i64 s, .int .i64 n, .slice pb b.length cb, .slice pk ks.length ck] 28) = W0 at A0 B0 N1 ⊢
  refine N1.out.mono ?_
  rintro e w1 ⟨v1, rfl, go1, gb1⟩
  have A1 : Hid (At5 w1 w.heap.size 0 (.int .i64 6) (.int .i64 s) (.int .i64 n) (.slice pb b.length cb) (.slice pk ks.length ck)) := A0.out.below gb1
  have B1 : Hid (Below w.heap.size w w1) := B0.out.trans (gb1.mono B0.out.size)
  obtain ⟨l1, hl1⟩ : ∃ l, l = enc (6 : Int).toNat := ⟨_, rfl⟩
  rw [← hl1] at go1
  have H1 : Hid (Lib.HoldsBytes w1 v1 l1) := own_holds go1
  have L1 : Hid (l1 = enc (6 : Int).toNat) := hl1
  obtain ⟨p1, c1, rfl⟩ := go1.shp
  obtain ⟨h0, h1, h2, h3, h4⟩ := A1.out
  clear go1 gb1 hl1 N1
  have N2 : Hid (Calls Try.prog 57 #[.slice p1 l1.length c1, .int .i64 n] w1 (RB w1 (l1 ++ enc (n).toNat))) := refNum_calls _ l1 n (by have := (INn.out).2; omega) _ H1.out (by have e := E1.out; rw [← L1.out] at e; omega)
  go_wp2_with fail
  refine N2.out.mono ?_
  rintro e w2 ⟨v2, rfl, go2, gb2⟩
  have A2 : Hid (At5 w2 w.heap.size 0 (.int .i64 6) (.int .i64 s) (.int .i64 n) (.slice pb b.length cb) (.slice pk ks.length ck)) := A1.out.below gb2
  have B2 : Hid (Below w.heap.size w w2) := B1.out.trans (gb2.mono B1.out.size)
  obtain ⟨l2, hl2⟩ : ∃ l, l = l1 ++ enc n.toNat := ⟨_, rfl⟩
  rw [← hl2] at go2
  have H2 : Hid (Lib.HoldsBytes w2 v2 l2) := own_holds go2
  have L2 : Hid (l2 = l1 ++ enc n.toNat) := hl2
  obtain ⟨p2, c2, rfl⟩ := go2.shp
  obtain ⟨h0, h1, h2, h3, h4⟩ := A2.out
  clear go2 gb2 hl2 N2
  have hcv := conv_string w2 p2 c2 l2 H2.out
  rw [str_nums] at hcv
  go_upto_region 17 with fail
  go_wp2_with fail
  go_ret
  rw [← L1.out, ← L2.out]
  exact ⟨rfl, B2.out⟩
set_option maxHeartbeats 4000000 in
set_option maxRecDepth 100000 in
theorem one8_calls (P : Nat → Prop) (s n : Int) (b : List UInt8) (ks : List Int) (vb vk : Value) (w : World) (h : IsV P w vb vk ⟨8, s, n, b, ks⟩) (wf : WfS ⟨8, s, n, b, ks⟩) (hm : MayF ⟨8, s, n, b, ks⟩) :
    Calls Try.prog 34 #[.agg (rowS vb vk ⟨8, s, n, b, ks⟩)] w fun e w' => e = .returned (.string (str (putF 9 ⟨8, s, n, b, ks⟩))) ∧ Below w.heap.size w w' := by
  obtain ⟨pb, cb, rfl, _⟩ := h.1.shape
  obtain ⟨pk, ck, rfl, _⟩ := h.2.shape
  have H0 : Hid (IsV P w (.slice pb b.length cb) (.slice pk ks.length ck) ⟨8, s, n, b, ks⟩) := h
  have WF : Hid (WfS ⟨8, s, n, b, ks⟩) := wf
  have MF : Hid (MayF ⟨8, s, n, b, ks⟩) := hm
  have IS : Hid (In s) := wf.2.1
  have INn : Hid (In n) := wf.2.2.1
  unfold rowS putF
  rw [if_neg (by decide), if_neg (by decide), if_pos rfl]
  dsimp only
  obtain ⟨h0, h1, h2, h3, h4⟩ := box_at w (.int .i64 8) (.int .i64 s) (.int .i64 n) (.slice pb b.length cb) (.slice pk ks.length ck)
  have A0 : Hid (At5 (w.alloc (.cells #[.int .i64 8, .int .i64 s, .int .i64 n, .slice pb b.length cb, .slice pk ks.length ck] 28)) w.heap.size 0 (.int .i64 8) (.int .i64 s) (.int .i64 n) (.slice pb b.length cb) (.slice pk ks.length ck)) := box_at w _ _ _ _ _
  have B0 : Hid (Below w.heap.size w (w.alloc (.cells #[.int .i64 8, .int .i64 s, .int .i64 n, .slice pb b.length cb, .slice pk ks.length ck] 28))) := bel1 w _
  have N1 : Hid (Calls Try.prog 57 #[.slice none 0 0, .int .i64 8] (w.alloc (.cells #[.int .i64 8, .int .i64 s, .int .i64 n, .slice pb b.length cb, .slice pk ks.length ck] 28)) (RB _ (enc (8 : Int).toNat))) := refNum_calls (.slice none 0 0) [] 8 (by decide) _ (holds_nil _) (by simp)
  have E1 : Hid ((enc (8 : Int).toNat).length ≤ 9) := enc_short 8 WF.out.1
  clear h wf hm
  go_enter Try.func34, Try.ntmps34
  go_wp2_with fail
  generalize w.alloc (.cells #[.int .i64 8, .int .i64 s, .int .i64 n, .slice pb b.length cb, .slice pk ks.length ck] 28) = W0 at A0 B0 N1 ⊢
  refine N1.out.mono ?_
  rintro e w1 ⟨v1, rfl, go1, gb1⟩
  have A1 : Hid (At5 w1 w.heap.size 0 (.int .i64 8) (.int .i64 s) (.int .i64 n) (.slice pb b.length cb) (.slice pk ks.length ck)) := A0.out.below gb1
  have B1 : Hid (Below w.heap.size w w1) := B0.out.trans (gb1.mono B0.out.size)
  obtain ⟨l1, hl1⟩ : ∃ l, l = enc (8 : Int).toNat := ⟨_, rfl⟩
  rw [← hl1] at go1
  have H1 : Hid (Lib.HoldsBytes w1 v1 l1) := own_holds go1
  have L1 : Hid (l1 = enc (8 : Int).toNat) := hl1
  obtain ⟨p1, c1, rfl⟩ := go1.shp
  obtain ⟨h0, h1, h2, h3, h4⟩ := A1.out
  clear go1 gb1 hl1 N1
  have N2 : Hid (Calls Try.prog 57 #[.slice p1 l1.length c1, .int .i64 n] w1 (RB w1 (l1 ++ enc (n).toNat))) := refNum_calls _ l1 n (by have := (INn.out).2; omega) _ H1.out (by have e := E1.out; rw [← L1.out] at e; omega)
  go_wp2_with fail
  refine N2.out.mono ?_
  rintro e w2 ⟨v2, rfl, go2, gb2⟩
  have A2 : Hid (At5 w2 w.heap.size 0 (.int .i64 8) (.int .i64 s) (.int .i64 n) (.slice pb b.length cb) (.slice pk ks.length ck)) := A1.out.below gb2
  have B2 : Hid (Below w.heap.size w w2) := B1.out.trans (gb2.mono B1.out.size)
  obtain ⟨l2, hl2⟩ : ∃ l, l = l1 ++ enc n.toNat := ⟨_, rfl⟩
  rw [← hl2] at go2
  have H2 : Hid (Lib.HoldsBytes w2 v2 l2) := own_holds go2
  have L2 : Hid (l2 = l1 ++ enc n.toNat) := hl2
  obtain ⟨p2, c2, rfl⟩ := go2.shp
  obtain ⟨h0, h1, h2, h3, h4⟩ := A2.out
  clear go2 gb2 hl2 N2
  have hcv := conv_string w2 p2 c2 l2 H2.out
  rw [str_nums] at hcv
  go_upto_region 17 with fail
  go_wp2_with fail
  go_ret
  rw [← L1.out, ← L2.out]
  exact ⟨rfl, B2.out⟩
set_option maxHeartbeats 4000000 in
set_option maxRecDepth 100000 in
theorem one1_calls (P : Nat → Prop) (s n : Int) (b : List UInt8) (ks : List Int) (vb vk : Value) (w : World) (h : IsV P w vb vk ⟨1, s, n, b, ks⟩) (wf : WfS ⟨1, s, n, b, ks⟩) (hm : MayF ⟨1, s, n, b, ks⟩) :
    Calls Try.prog 34 #[.agg (rowS vb vk ⟨1, s, n, b, ks⟩)] w fun e w' => e = .returned (.string (str (putF 7 ⟨1, s, n, b, ks⟩))) ∧ Below w.heap.size w w' := by
  obtain ⟨pb, cb, rfl, _⟩ := h.1.shape
  obtain ⟨pk, ck, rfl, _⟩ := h.2.shape
  have H0 : Hid (IsV P w (.slice pb b.length cb) (.slice pk ks.length ck) ⟨1, s, n, b, ks⟩) := h
  have WF : Hid (WfS ⟨1, s, n, b, ks⟩) := wf
  have MF : Hid (MayF ⟨1, s, n, b, ks⟩) := hm
  have IS : Hid (In s) := wf.2.1
  have INn : Hid (In n) := wf.2.2.1
  unfold rowS putF
  rw [if_pos rfl]
  dsimp only
  obtain ⟨h0, h1, h2, h3, h4⟩ := box_at w (.int .i64 1) (.int .i64 s) (.int .i64 n) (.slice pb b.length cb) (.slice pk ks.length ck)
  have A0 : Hid (At5 (w.alloc (.cells #[.int .i64 1, .int .i64 s, .int .i64 n, .slice pb b.length cb, .slice pk ks.length ck] 28)) w.heap.size 0 (.int .i64 1) (.int .i64 s) (.int .i64 n) (.slice pb b.length cb) (.slice pk ks.length ck)) := box_at w _ _ _ _ _
  have B0 : Hid (Below w.heap.size w (w.alloc (.cells #[.int .i64 1, .int .i64 s, .int .i64 n, .slice pb b.length cb, .slice pk ks.length ck] 28))) := bel1 w _
  have N1 : Hid (Calls Try.prog 57 #[.slice none 0 0, .int .i64 1] (w.alloc (.cells #[.int .i64 1, .int .i64 s, .int .i64 n, .slice pb b.length cb, .slice pk ks.length ck] 28)) (RB _ (enc (1 : Int).toNat))) := refNum_calls (.slice none 0 0) [] 1 (by decide) _ (holds_nil _) (by simp)
  have E1 : Hid ((enc (1 : Int).toNat).length ≤ 9) := enc_short 1 WF.out.1
  clear h wf hm
  go_enter Try.func34, Try.ntmps34
  go_wp2_with fail
  generalize w.alloc (.cells #[.int .i64 1, .int .i64 s, .int .i64 n, .slice pb b.length cb, .slice pk ks.length ck] 28) = W0 at A0 B0 N1 ⊢
  refine N1.out.mono ?_
  rintro e w1 ⟨v1, rfl, go1, gb1⟩
  have A1 : Hid (At5 w1 w.heap.size 0 (.int .i64 1) (.int .i64 s) (.int .i64 n) (.slice pb b.length cb) (.slice pk ks.length ck)) := A0.out.below gb1
  have B1 : Hid (Below w.heap.size w w1) := B0.out.trans (gb1.mono B0.out.size)
  obtain ⟨l1, hl1⟩ : ∃ l, l = enc (1 : Int).toNat := ⟨_, rfl⟩
  rw [← hl1] at go1
  have H1 : Hid (Lib.HoldsBytes w1 v1 l1) := own_holds go1
  have L1 : Hid (l1 = enc (1 : Int).toNat) := hl1
  obtain ⟨p1, c1, rfl⟩ := go1.shp
  obtain ⟨h0, h1, h2, h3, h4⟩ := A1.out
  clear go1 gb1 hl1 N1
  have HLB : Hid (l1.length ≤ 9) := by show _ ≤ _; have e := E1.out; rw [← L1.out] at e; exact e
  have hbl : b.length ≤ 16384 := by have h1 := MF.out.b; have h2 := mst_le (f := fld 1) (c := 4) (m := 16384) (by decide); dsimp only at h1; omega
  have HBL : Hid (b.length ≤ 16384) := hbl
  have CV : Hid (∀ W, Below w.heap.size w W → (convert 23 9 (.slice pb b.length cb)).run Try.prog W = .ok (.string (str b)) W) := fun W hb => by
    have h := conv_string W pb cb b ((H0.out.1.below hb).bytes)
    rwa [str_nums] at h
  have CVd : (convert 23 9 (.slice pb b.length cb)).run Try.prog w1.drew = .ok (.string (str b)) w1.drew := CV.out _ B1.out.drew
  have hv1 : Lib.HoldsBytes w1.drew (.slice p1 l1.length c1) l1 := holds_below H1.out ((Below.refl _ w1).drew)
  have N2 : Hid (Calls Try.prog 57 #[.slice p1 l1.length c1, .int .i64 s] w1.drew (RB w1.drew (l1 ++ enc s.toNat))) := refNum_calls _ l1 s (by have := IS.out.2; omega) _ hv1 (by have := HLB.out; omega)
  obtain ⟨l2, hl2⟩ : ∃ l, l = l1 ++ enc s.toNat := ⟨_, rfl⟩
  rw [← hl2] at N2
  have L2 : Hid (l2 = l1 ++ enc s.toNat) := hl2
  clear hv1 hbl hl2
  go_upto_region 4 with fail
  have g1 : w1.drew.cell? ⟨w.heap.size, 1, none⟩ = some (.int .i64 s) := h1
  have g3 : w1.drew.cell? ⟨w.heap.size, 3, none⟩ = some (.slice pb b.length cb) := h3
  go_region_held3 (fun w' => w'.cell? ⟨w.heap.size, 1, none⟩ = some (.int .i64 s) ∧ w'.cell? ⟨w.heap.size, 3, none⟩ = some (.slice pb b.length cb) ∧ (convert 23 9 (.slice pb b.length cb)).run Try.prog w' = .ok (.string (str b)) w') (first | go_keep | (refine ⟨?_, ?_, ?_⟩ <;> assumption) | assumption) (first
    | (go_at_call_of 57 (Value.slice p1 l1.length c1); refine N2.out.mono ?_; rintro e w2 ⟨v2, rfl, go2, gb2⟩; have A2 : Hid (At5 w2 w.heap.size 0 _ _ _ _ _) := (A1.out.below ((Below.refl _ w1).drew)).below gb2; have B2 : Hid (Below w.heap.size w w2) := B1.out.drew.trans (gb2.mono B1.out.drew.size); have H2 : Hid (Lib.HoldsBytes w2 v2 l2) := own_holds go2; obtain ⟨p2, c2, rfl⟩ := go2.shp; have k1 : w2.cell? ⟨w.heap.size, 1, none⟩ = some (.int .i64 s) := A2.out.2.1; have k3 : w2.cell? ⟨w.heap.size, 3, none⟩ = some (.slice pb b.length cb) := A2.out.2.2.2.1; have kcv : (convert 23 9 (.slice pb b.length cb)).run Try.prog w2 = .ok (.string (str b)) w2 := CV.out _ B2.out; clear go2 gb2)
    | (go_at_call_of 33 (Value.slice p2 l2.length c2); refine (ref7 b w2 (by have := HLB.out; have := enc_short s IS.out; rw [L2.out, List.length_append]; omega) HBL.out H2.out).mono ?_; rintro e w3 ⟨v3, rfl, go3, gb3⟩; have B3 : Hid (Below w.heap.size w w3) := B2.out.trans (gb3.mono B2.out.size); have A3 : Hid (At5 w3 w.heap.size 0 _ _ _ _ _) := A2.out.below gb3; obtain ⟨l3, hl3⟩ : ∃ l, l = l2 ++ enc b.length ++ b := ⟨_, rfl⟩; rw [← hl3] at go3; have H3 : Hid (Lib.HoldsBytes w3 v3 l3) := own_holds go3; have L3 : Hid (l3 = l2 ++ enc b.length ++ b) := hl3; obtain ⟨p3, c3, rfl⟩ := go3.shp; have k1 : w3.cell? ⟨w.heap.size, 1, none⟩ = some (.int .i64 s) := A3.out.2.1; have k3 : w3.cell? ⟨w.heap.size, 3, none⟩ = some (.slice pb b.length cb) := A3.out.2.2.2.1; have kcv : (convert 23 9 (.slice pb b.length cb)).run Try.prog w3 = .ok (.string (str b)) w3 := CV.out _ B3.out; clear go3 gb3 hl3))
  all_goals
    have hcv := conv_string w3 p3 c3 l3 H3.out
    rw [str_nums] at hcv
    go_upto_region 17 with fail
    go_wp2_with fail
    go_ret
    rw [← L1.out, ← L2.out, ← L3.out]
    exact ⟨rfl, B3.out⟩
set_option maxHeartbeats 4000000 in
set_option maxRecDepth 100000 in
theorem one4_calls (P : Nat → Prop) (s n : Int) (b : List UInt8) (ks : List Int) (vb vk : Value) (w : World) (h : IsV P w vb vk ⟨4, s, n, b, ks⟩) (wf : WfS ⟨4, s, n, b, ks⟩) (hm : MayF ⟨4, s, n, b, ks⟩) :
    Calls Try.prog 34 #[.agg (rowS vb vk ⟨4, s, n, b, ks⟩)] w fun e w' => e = .returned (.string (str (putF 17 ⟨4, s, n, b, ks⟩))) ∧ Below w.heap.size w w' := by
  obtain ⟨pb, cb, rfl, _⟩ := h.1.shape
  obtain ⟨pk, ck, rfl, _⟩ := h.2.shape
  have H0 : Hid (IsV P w (.slice pb b.length cb) (.slice pk ks.length ck) ⟨4, s, n, b, ks⟩) := h
  have WF : Hid (WfS ⟨4, s, n, b, ks⟩) := wf
  have MF : Hid (MayF ⟨4, s, n, b, ks⟩) := hm
  have IS : Hid (In s) := wf.2.1
  have INn : Hid (In n) := wf.2.2.1
  unfold rowS putF
  rw [if_neg (by decide), if_neg (by decide), if_neg (by decide), if_pos rfl]
  dsimp only
  obtain ⟨h0, h1, h2, h3, h4⟩ := box_at w (.int .i64 4) (.int .i64 s) (.int .i64 n) (.slice pb b.length cb) (.slice pk ks.length ck)
  have A0 : Hid (At5 (w.alloc (.cells #[.int .i64 4, .int .i64 s, .int .i64 n, .slice pb b.length cb, .slice pk ks.length ck] 28)) w.heap.size 0 (.int .i64 4) (.int .i64 s) (.int .i64 n) (.slice pb b.length cb) (.slice pk ks.length ck)) := box_at w _ _ _ _ _
  have B0 : Hid (Below w.heap.size w (w.alloc (.cells #[.int .i64 4, .int .i64 s, .int .i64 n, .slice pb b.length cb, .slice pk ks.length ck] 28))) := bel1 w _
  have N1 : Hid (Calls Try.prog 57 #[.slice none 0 0, .int .i64 4] (w.alloc (.cells #[.int .i64 4, .int .i64 s, .int .i64 n, .slice pb b.length cb, .slice pk ks.length ck] 28)) (RB _ (enc (4 : Int).toNat))) := refNum_calls (.slice none 0 0) [] 4 (by decide) _ (holds_nil _) (by simp)
  have E1 : Hid ((enc (4 : Int).toNat).length ≤ 9) := enc_short 4 WF.out.1
  clear h wf hm
  go_enter Try.func34, Try.ntmps34
  go_wp2_with fail
  generalize w.alloc (.cells #[.int .i64 4, .int .i64 s, .int .i64 n, .slice pb b.length cb, .slice pk ks.length ck] 28) = W0 at A0 B0 N1 ⊢
  refine N1.out.mono ?_
  rintro e w1 ⟨v1, rfl, go1, gb1⟩
  have A1 : Hid (At5 w1 w.heap.size 0 (.int .i64 4) (.int .i64 s) (.int .i64 n) (.slice pb b.length cb) (.slice pk ks.length ck)) := A0.out.below gb1
  have B1 : Hid (Below w.heap.size w w1) := B0.out.trans (gb1.mono B0.out.size)
  obtain ⟨l1, hl1⟩ : ∃ l, l = enc (4 : Int).toNat := ⟨_, rfl⟩
  rw [← hl1] at go1
  have H1 : Hid (Lib.HoldsBytes w1 v1 l1) := own_holds go1
  have L1 : Hid (l1 = enc (4 : Int).toNat) := hl1
  obtain ⟨p1, c1, rfl⟩ := go1.shp
  obtain ⟨h0, h1, h2, h3, h4⟩ := A1.out
  clear go1 gb1 hl1 N1
  have HM : Hid (ks.length ≤ 64) := by show _ ≤ _; have h1 := MF.out.l; have h2 := mst_le (f := fld 4) (c := 16) (m := 64) (by decide); dsimp only at h1; omega
  have N2 : Hid (Calls Try.prog 57 #[.slice p1 l1.length c1, .int .i64 (ks.length : Int)] w1 (RB w1 (l1 ++ enc ks.length))) := by
    have h := refNum_calls _ l1 (ks.length : Int) (by have := HM.out; omega) w1 H1.out (by have e := E1.out; rw [← L1.out] at e; omega)
    rwa [Int.toNat_natCast] at h
  go_wp2_with fail
  refine N2.out.mono ?_
  rintro e w2 ⟨v2, rfl, go2, gb2⟩
  have A2 : Hid (At5 w2 w.heap.size 0 (.int .i64 4) (.int .i64 s) (.int .i64 n) (.slice pb b.length cb) (.slice pk ks.length ck)) := A1.out.below gb2
  have B2 : Hid (Below w.heap.size w w2) := B1.out.trans (gb2.mono B1.out.size)
  obtain ⟨l2, hl2⟩ : ∃ l, l = l1 ++ enc ks.length := ⟨_, rfl⟩
  rw [← hl2] at go2
  have H2 : Hid (Lib.HoldsBytes w2 v2 l2) := own_holds go2
  have L2 : Hid (l2 = l1 ++ enc ks.length) := hl2
  obtain ⟨p2, c2, rfl⟩ := go2.shp
  obtain ⟨h0, h1, h2, h3, h4⟩ := A2.out
  clear go2 gb2 hl2 N2
  have HKS : Hid (∀ (i : Nat) z, ks[i]? = some z → ∃ B o, pk = some ⟨B, o, none⟩ ∧ w.cell? ⟨B, o + i, none⟩ = some (.int .i64 z)) := fun i z hz => by
    obtain ⟨p, c, e, _, _, hh⟩ := H0.out.2
    cases e
    obtain ⟨B, o, e1, _, e2⟩ := hh i z hz
    exact ⟨B, o, e1, e2⟩
  obtain ⟨N, hN⟩ : ∃ N, N = ks.length := ⟨_, rfl⟩
  rw [← hN] at h4 A2 ⊢
  have HN : Hid (N = ks.length) := hN
  have LL : Hid (l2.length ≤ 18) := by show _ ≤ _; have e := E1.out; have e2 := enc_short (ks.length : Int) ⟨by omega, by have := HM.out; omega⟩; rw [Int.toNat_natCast] at e2; rw [L2.out, List.length_append, L1.out]; omega
  clear hN
  go_wp2_with fail
  clear h0 h1 h2 h3 h4
  go_loopw [3, 4] (fun u i wr => ∃ (j : Nat) (a : Option Addr) (c : Nat) (l : List UInt8), j ≤ N ∧ i = .int .i64 (j : Int) ∧ u = .slice a l.length c ∧ Hid (l = l2 ++ ens (ks.take j)) ∧ Hid (Lib.HoldsBytes wr (.slice a l.length c) l) ∧ Hid (Below w2.heap.size w2 wr)) (fun _ i _ => N - (intOf i).toNat)
  case atStart => exact ⟨0, p2, c2, l2, Nat.zero_le _, rfl, rfl, (by show _ = _; simp [ens]), H2, Below.refl _ _⟩
  case round =>
    obtain ⟨j, a, c, l, hj, rfl, rfl, HL, HH, HB⟩ := hrel
    obtain ⟨_, _, _, _, h4⟩ := A2.out.below HB.out
    have HB9 : Hid (Below w.heap.size w wr) := B2.out.trans (HB.out.mono B2.out.size)
    by_cases hlt : j < N
    · have hjl : (j : Int) < (N : Int) := by omega
      obtain ⟨z, hz⟩ : ∃ z, ks[j]? = some z := ⟨_, List.getElem?_eq_getElem (by have := HN.out; omega)⟩
      obtain ⟨B, o, rfl, hcl0⟩ := HKS.out j z hz
      have hcl := Lib.Below.cellOf HB9.out hcl0 (Nat.le_refl _)
      have HZ : Hid (ks[j]? = some z) := hz
      have INz : Hid (In z) := WF.out.2.2.2 z (List.mem_of_getElem? hz)
      have NC : Hid (Calls Try.prog 57 #[.slice a l.length c, .int .i64 z] wr (RB wr (l ++ enc z.toNat))) := refNum_calls _ l z (by have := INz.out.2; omega) wr HH.out (by
        have e1 := ens_len (ks.take j) (fun y hy => WF.out.2.2.2 y (List.mem_of_mem_take hy))
        have e2 := LL.out
        have e3 := HM.out
        rw [HL.out, List.length_append]
        rw [List.length_take] at e1
        omega)
      have HW : Hid (wrap64 ((j : Int) + 1) = ((j + 1 : Nat) : Int)) := wr1 hlt (by have := HM.out; have := HN.out; omega)
      clear hz hcl0
      go_wp2_with fail
      refine NC.out.mono ?_
      rintro e w3 ⟨v3, rfl, go3, gb3⟩
      have B3 : Hid (Below w2.heap.size w2 w3) := HB.out.trans (gb3.mono HB.out.size)
      have H3 : Hid (Lib.HoldsBytes w3 v3 (l ++ enc z.toNat)) := own_holds go3
      obtain ⟨p3, c3, rfl⟩ := go3.shp
      have L3 : Hid (l ++ enc z.toNat = l2 ++ ens (ks.take (j + 1))) := by
        show _ = _
        rw [HL.out, List.take_add_one, HZ.out]
        simp [ens]
      clear go3 gb3 NC
      go_wp2_with fail
      exact ⟨⟨j + 1, p3, c3, l ++ enc z.toNat, hlt, by rw [HW.out], by rw [List.length_append], L3, H3, B3⟩, meas hlt HW.out⟩
    · obtain rfl : j = N := by omega
      have L3 : Hid (l = l2 ++ ens ks) := by show _ = _; rw [HL.out, HN.out, List.take_length]
      have hcv := conv_string wr a c l HH.out
      rw [str_nums] at hcv
      go_wp2_with fail
      go_ret
      rw [← L1.out, ← L2.out, ← L3.out]
      exact ⟨rfl, HB9.out⟩
end Go.Proofs.Ytimiklekajelfaa
