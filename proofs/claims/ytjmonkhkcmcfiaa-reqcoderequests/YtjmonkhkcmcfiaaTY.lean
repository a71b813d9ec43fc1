/- The reference's writers of values, moved from the event codes. -/
import Derived.Test.YtjmonkhkcmcfiaaVK
import Derived.Test.YtjmonkhkcmcfiaaPP
import Derived.Deep.DeepCutAuto
import Derived.Test.YtjmonkhkcmcfiaaVB
import Derived.Test.YtjmonkhkcmcfiaaVI
namespace Go.Proofs.Ytjmonkhkcmcfiaa
open Go.ChangeShapes Go.WideShapes Go.ChangeAt Go.RowKit Go.BigFrame
def BD : Nat → Nat
  | 0 => 210
  | d + 1 => 210 + 13 * BD d
theorem flat_bd {n B : Nat} : ∀ (l : List Tv), (∀ (i : Nat) t, l[i]? = some t → (bytesT n t).length ≤ B) → ((l.map (bytesT n)).flatten).length ≤ l.length * B
  | [], _ => by simp
  | t :: l, h => by
    have h0 := h 0 t rfl
    have h1 := flat_bd l (fun i u hu => h (i + 1) u (by simpa using hu))
    simp only [List.map_cons, List.flatten_cons, List.length_append, List.length_cons]
    rw [Nat.succ_mul]
    omega
theorem bytes_bd : ∀ (n d : Nat) (t : Tv), ShapeT n (d : Int) t → (bytesT n t).length ≤ BD d
  | 0, _, _, h => h.elim
  | n + 1, d, .mk k x b s l, ⟨hf, hk, hl⟩ => by
    obtain ⟨k0, k4, _, _, _, _, hs, _, hn⟩ := hf
    have e1 : (enc k.toNat).length = 1 := enc_one (by omega)
    have e2 : (enc s.size).length = 1 := enc_small hs
    have e3 : (enc l.length).length = 1 := enc_one hn
    have hd : 210 ≤ BD d := by cases d <;> simp [BD]
    unfold bytesT
    rw [List.length_append, e1]
    split
    · rw [be_length]; omega
    · split
      · rw [be_length]; omega
      · split
        · rw [List.length_append, e2, str_len]; omega
        · split
          · rename_i h4
            rw [List.length_append, e3]
            have hd0 := hk h4
            obtain ⟨d', rfl⟩ : ∃ d', d = d' + 1 := ⟨d - 1, by omega⟩
            have := flat_bd l (B := BD d') (fun i t ht => bytes_bd n d' t (by have := hl i t ht; rwa [show (((d' + 1 : Nat) : Int) - 1) = (d' : Int) by omega] at this))
            have h12 : l.length * BD d' ≤ 12 * BD d' := Nat.mul_le_mul_right _ hn
            simp only [BD]
            omega
          · simp; omega
/-- What a writer of the reference gives. -/
def RH (w : World) (l : List UInt8) (e : Ending) (w' : World) : Prop := ∃ v', e = .returned v' ∧ Lib.HoldsBytes w' v' l ∧ Below w.heap.size w w'
def BytesAt (n : Nat) : Prop := ∀ (d : Nat) (v : Value) (t : Tv) (b : Value) (L : List UInt8) (w : World), Is w n v t → ShapeT n (d : Int) t → Lib.HoldsBytes w b L → L.length + BD d ≤ 70368744177663 → Calls Try.prog 53 #[b, v] w (RH w (L ++ bytesT n t))
theorem holds_sliceY {w : World} {v : Value} {l : List UInt8} (h : Lib.HoldsBytes w v l) : ∃ p m c, v = .slice p m c := by obtain ⟨p, c, rfl, _⟩ := h; exact ⟨_, _, _, rfl⟩
set_option maxHeartbeats 2000000 in
set_option maxRecDepth 100000 in
theorem bytes_flat (k x : Int) (b : Nat) (s : ByteArray) (a : Option Addr) (c : Nat) (bv : Value) (L : List UInt8) (w : World) (hk0 : 0 ≤ k) (hk : k ≤ 3) (hx : (Lit.int .i64 x).wf = true) (hb : b < 18446744073709551616) (hs : s.size ≤ 200) (hv : Lib.HoldsBytes w bv L) (hl : L.length + 210 ≤ 70368744177663) :
    Calls Try.prog 53 #[bv, .agg #[.int .i64 k, .int .i64 x, .int .u64 (b : Int), .string s, .slice a 0 c]] w (RH w (L ++ (enc k.toNat ++ (if k = 1 then be (tn x) 8 else if k = 2 then be b 8 else if k = 3 then enc s.size ++ s.data.toList else [])))) := by
  have he : (enc k.toNat).length = 1 := enc_one (by omega)
  have HN : Hid (∀ W, Below w.heap.size w W → Calls Try.prog 22 #[bv, .int .i64 k] W (RB W (L ++ enc k.toNat))) := fun W hB => refNum_calls bv L k (by omega) W (holds_below hv hB) (by omega)
  obtain ⟨bp, bm, bc, rfl⟩ := holds_sliceY hv
  obtain ⟨M, hM⟩ : ∃ M, M = L ++ enc k.toNat := ⟨_, rfl⟩
  have hml : M.length ≤ 70368744177463 := by rw [hM, List.length_append]; omega
  rw [← List.append_assoc]
  rw [← hM] at HN ⊢
  have H1 : Hid (∀ W v, Lib.HoldsBytes W v M → Calls Try.prog 76 #[v, .int .i64 x] W (RB W (M ++ be (tn x) 8))) := fun W v h => refInt_calls v M x hx W h (by omega)
  have H2 : Hid (∀ W v, Lib.HoldsBytes W v M → Calls Try.prog 24 #[v, .int .u64 (b : Int)] W (RB W (M ++ be b 8))) := fun W v h => refBits_calls v M b hb W h (by omega)
  have H3 : Hid (∀ W v, Lib.HoldsBytes W v M → Calls Try.prog 21 #[v, .string s] W (RB W (M ++ enc s.size ++ s.data.toList))) := fun W v h => refText_calls v M s W h (by omega) (by omega)
  clear hv hl he hM hml hx hb hs
  rcases (by omega : k = 0 ∨ k = 1 ∨ k = 2 ∨ k = 3) with rfl | rfl | rfl | rfl
  · rw [if_neg (by decide), if_neg (by decide), if_neg (by decide), List.append_nil]
    clear hk hk0
    go_enter Try.func53, Try.ntmps53
    go_wp2_with fail
    refine (HN.out _ (bel1 _ _)).mono ?_
    rintro e w1 ⟨v1, rfl, ho, hb⟩
    have HV : Hid (Lib.HoldsBytes w1 v1 M) := own_holds ho
    have HB : Hid (Below w.heap.size w w1) := bel2 (bel1 _ _) hb
    obtain ⟨p0, p1, p2, p3, p4⟩ := (box_at w (.int .i64 0) (.int .i64 x) (.int .u64 (b : Int)) (.string s) (.slice a 0 c)).below hb
    clear ho hb
    go_wp2_with fail
    go_ret
    exact ⟨_, rfl, HV.out, HB.out⟩
  · rw [if_pos rfl]
    clear hk hk0
    go_enter Try.func53, Try.ntmps53
    go_wp2_with fail
    refine (HN.out _ (bel1 _ _)).mono ?_
    rintro e w1 ⟨v1, rfl, ho, hb⟩
    have HV : Hid (Lib.HoldsBytes w1 v1 M) := own_holds ho
    have HB : Hid (Below w.heap.size w w1) := bel2 (bel1 _ _) hb
    obtain ⟨p0, p1, p2, p3, p4⟩ := (box_at w (.int .i64 1) (.int .i64 x) (.int .u64 (b : Int)) (.string s) (.slice a 0 c)).below hb
    clear ho hb
    go_wp2_with fail
    refine (H1.out _ _ HV.out).mono ?_
    rintro e w2 ⟨v2, rfl, ho, hb⟩
    have HV2 : Hid (Lib.HoldsBytes w2 v2 _) := own_holds ho
    have HB2 : Hid (Below w.heap.size w w2) := bel2 HB.out hb
    clear ho hb
    go_wp2_with fail
    go_ret
    exact ⟨_, rfl, HV2.out, HB2.out⟩
  · rw [if_neg (by decide), if_pos rfl]
    clear hk hk0
    go_enter Try.func53, Try.ntmps53
    go_wp2_with fail
    refine (HN.out _ (bel1 _ _)).mono ?_
    rintro e w1 ⟨v1, rfl, ho, hb⟩
    have HV : Hid (Lib.HoldsBytes w1 v1 M) := own_holds ho
    have HB : Hid (Below w.heap.size w w1) := bel2 (bel1 _ _) hb
    obtain ⟨p0, p1, p2, p3, p4⟩ := (box_at w (.int .i64 2) (.int .i64 x) (.int .u64 (b : Int)) (.string s) (.slice a 0 c)).below hb
    clear ho hb
    go_wp2_with fail
    refine (H2.out _ _ HV.out).mono ?_
    rintro e w2 ⟨v2, rfl, ho, hb⟩
    have HV2 : Hid (Lib.HoldsBytes w2 v2 _) := own_holds ho
    have HB2 : Hid (Below w.heap.size w w2) := bel2 HB.out hb
    clear ho hb
    go_wp2_with fail
    go_ret
    exact ⟨_, rfl, HV2.out, HB2.out⟩
  · rw [if_neg (by decide), if_neg (by decide), if_pos rfl, ← List.append_assoc]
    clear hk hk0
    go_enter Try.func53, Try.ntmps53
    go_wp2_with fail
    refine (HN.out _ (bel1 _ _)).mono ?_
    rintro e w1 ⟨v1, rfl, ho, hb⟩
    have HV : Hid (Lib.HoldsBytes w1 v1 M) := own_holds ho
    have HB : Hid (Below w.heap.size w w1) := bel2 (bel1 _ _) hb
    obtain ⟨p0, p1, p2, p3, p4⟩ := (box_at w (.int .i64 3) (.int .i64 x) (.int .u64 (b : Int)) (.string s) (.slice a 0 c)).below hb
    clear ho hb
    go_wp2_with fail
    refine (H3.out _ _ HV.out).mono ?_
    rintro e w2 ⟨v2, rfl, ho, hb⟩
    have HV2 : Hid (Lib.HoldsBytes w2 v2 _) := own_holds ho
    have HB2 : Hid (Below w.heap.size w w2) := bel2 HB.out hb
    clear ho hb
    go_wp2_with fail
    go_ret
    exact ⟨_, rfl, HV2.out, HB2.out⟩
end Go.Proofs.Ytjmonkhkcmcfiaa
namespace Go.Proofs.Ytjmonkhkcmcfiaa
open Go.ChangeShapes Go.WideShapes Go.ChangeAt Go.RowKit Go.BigFrame
def Pre1 (k x : Int) (b : Nat) (s : ByteArray) (n : Nat) : Prop := 0 ≤ k ∧ k ≤ 4 ∧ (k = 1 ∨ x = 0) ∧ (k = 2 ∨ b = 0) ∧ (k = 3 ∨ s.toList = []) ∧ (k = 4 ∨ n = 0)
theorem no_n {k : Int} {N : Nat} (h : (0 ≤ k ∧ k ≤ 4) ∧ ((k != 4) = false ∨ ¬ 0 < N)) (h4 : ¬ k = 4) : N = 0 := by
  rcases h.2 with h | h
  · exact absurd (by simpa using h) h4
  · omega
set_option maxHeartbeats 2000000 in
set_option maxRecDepth 100000 in
theorem shape_no1 (k x : Int) (b : Nat) (s : ByteArray) (a : Option Addr) (N c : Nat) (d : Int) (w : World) (p : Prop) (hp : ¬ p) (h : ¬ Pre1 k x b s N) :
    Calls Try.prog 75 #[.agg #[.int .i64 k, .int .i64 x, .int .u64 (b : Int), .string s, .slice a N c], .int .i64 d] w (FP p w) := by
  have HP : Hid (¬ p) := hp
  have HQ : Hid (¬ Pre1 k x b s N) := h
  clear hp h
  go_enter Try.func75, Try.ntmps75
  go_wp2_with fail
  all_goals first
    | (go_ret; exact FP.no HP.out (bel1 _ _))
    | (refine absurd ⟨by assumption, by assumption, by first | exact .inl (by assumption) | exact .inr (by assumption), by first | exact .inl (by assumption) | exact .inr (by assumption), by first | exact .inl (by assumption) | exact .inr (by assumption), by first | exact .inl (by assumption) | exact .inr (by omega) | exact .inr (no_n (by assumption) (by assumption))⟩ HQ.out)
end Go.Proofs.Ytjmonkhkcmcfiaa
namespace Go.Proofs.Ytjmonkhkcmcfiaa
open Go.ChangeShapes Go.WideShapes Go.ChangeAt Go.RowKit Go.BigFrame
set_option maxHeartbeats 2000000 in
set_option maxRecDepth 100000 in
theorem shape_y0 (a : Option Addr) (c : Nat) (d : Int) (w : World) (p : Prop) (hp : p) :
    Calls Try.prog 75 #[.agg #[.int .i64 0, .int .i64 0, .int .u64 0, .string ⟨#[]⟩, .slice a 0 c], .int .i64 d] w (FP p w) := by
  have HP : Hid (p) := hp
  have HC : Hid (∀ w, Calls Try.prog 86 #[.int .u64 0] w fun e w' => e = .returned (.int .u64 0) ∧ w' = w) := fun w => refCanon_calls 0 w
  clear hp
  go_enter Try.func75, Try.ntmps75
  go_wp2_with fail
  refine wp_region_quiet_lit (by kernel_rfl) (by kernel_rfl) ?_
  repeat (go_big_quiet_step (first | (go_at_call 86; exact Calls.quiet_of_same (HC.out _))))
  refine wpQuiet_nil ?_
  intro _ hw'
  obtain ⟨nq, hw''⟩ := hw'
  subst hw''
  generalize hW0 : w.alloc (Obj.cells #[.int .i64 0, .int .i64 0, .int .u64 0, .string ⟨#[]⟩, .slice a 0 c] 25) = W0
  have hg : (W0.drewN nq).cell? ⟨w.heap.size, 4, none⟩ = some (.slice a 0 c) := by subst hW0; rw [World.cell?_drewN]; go_simp
  have HB : Hid (Below w.heap.size w (W0.drewN nq)) := by subst hW0; exact bel2 (bel1 _ _) (belN _ _)
  generalize W0.drewN nq = W1 at hg HB ⊢
  clear hW0
  go_wp2_with fail
  go_loopw [5] (fun i wr => i = .int .i64 0 ∧ wr = W1) (fun _ _ => 0)
  case atStart => exact ⟨rfl, rfl⟩
  case round =>
    obtain ⟨rfl, rfl⟩ := hrel
    go_wp2_with fail
    go_ret
    exact FP.yes HP.out HB.out
set_option maxHeartbeats 2000000 in
set_option maxRecDepth 100000 in
theorem shape_y1 (x : Int) (a : Option Addr) (c : Nat) (d : Int) (w : World) (p : Prop) (hp : p) :
    Calls Try.prog 75 #[.agg #[.int .i64 1, .int .i64 x, .int .u64 0, .string ⟨#[]⟩, .slice a 0 c], .int .i64 d] w (FP p w) := by
  have HP : Hid (p) := hp
  have HC : Hid (∀ w, Calls Try.prog 86 #[.int .u64 0] w fun e w' => e = .returned (.int .u64 0) ∧ w' = w) := fun w => refCanon_calls 0 w
  clear hp
  go_enter Try.func75, Try.ntmps75
  go_wp2_with fail
  refine wp_region_quiet_lit (by kernel_rfl) (by kernel_rfl) ?_
  repeat (go_big_quiet_step (first | (go_at_call 86; exact Calls.quiet_of_same (HC.out _))))
  refine wpQuiet_nil ?_
  intro _ hw'
  obtain ⟨nq, hw''⟩ := hw'
  subst hw''
  generalize hW0 : w.alloc (Obj.cells #[.int .i64 1, .int .i64 x, .int .u64 0, .string ⟨#[]⟩, .slice a 0 c] 25) = W0
  have hg : (W0.drewN nq).cell? ⟨w.heap.size, 4, none⟩ = some (.slice a 0 c) := by subst hW0; rw [World.cell?_drewN]; go_simp
  have HB : Hid (Below w.heap.size w (W0.drewN nq)) := by subst hW0; exact bel2 (bel1 _ _) (belN _ _)
  generalize W0.drewN nq = W1 at hg HB ⊢
  clear hW0
  go_wp2_with fail
  go_loopw [5] (fun i wr => i = .int .i64 0 ∧ wr = W1) (fun _ _ => 0)
  case atStart => exact ⟨rfl, rfl⟩
  case round =>
    obtain ⟨rfl, rfl⟩ := hrel
    go_wp2_with fail
    go_ret
    exact FP.yes HP.out HB.out
set_option maxHeartbeats 2000000 in
set_option maxRecDepth 100000 in
theorem shape_y2 (b b' : Nat) (hC : ∀ w, Calls Try.prog 86 #[.int .u64 (b : Int)] w fun e w' => e = .returned (.int .u64 (b' : Int)) ∧ w' = w) (h : b' = b) (a : Option Addr) (c : Nat) (d : Int) (w : World) (p : Prop) (hp : p) :
    Calls Try.prog 75 #[.agg #[.int .i64 2, .int .i64 0, .int .u64 (b : Int), .string ⟨#[]⟩, .slice a 0 c], .int .i64 d] w (FP p w) := by
  have HP : Hid (p) := hp
  have HC : Hid (∀ w, Calls Try.prog 86 #[.int .u64 (b : Int)] w fun e w' => e = .returned (.int .u64 (b' : Int)) ∧ w' = w) := hC
  clear hp
  have f1 : ((b : Int) != (b' : Int)) = false := by simp [h]
  have f2 : (b != b') = false := by simp [h]
  clear h hC
  go_enter Try.func75, Try.ntmps75
  go_wp2_with fail
  refine wp_region_quiet_lit (by kernel_rfl) (by kernel_rfl) ?_
  repeat (go_big_quiet_step (first | (go_at_call 86; exact Calls.quiet_of_same (HC.out _))))
  refine wpQuiet_nil ?_
  intro _ hw'
  obtain ⟨nq, hw''⟩ := hw'
  subst hw''
  generalize hW0 : w.alloc (Obj.cells #[.int .i64 2, .int .i64 0, .int .u64 (b : Int), .string ⟨#[]⟩, .slice a 0 c] 25) = W0
  have hg : (W0.drewN nq).cell? ⟨w.heap.size, 4, none⟩ = some (.slice a 0 c) := by subst hW0; rw [World.cell?_drewN]; go_simp
  have HB : Hid (Below w.heap.size w (W0.drewN nq)) := by subst hW0; exact bel2 (bel1 _ _) (belN _ _)
  generalize W0.drewN nq = W1 at hg HB ⊢
  clear hW0
  go_wp2_with fail
  go_loopw [5] (fun i wr => i = .int .i64 0 ∧ wr = W1) (fun _ _ => 0)
  case atStart => exact ⟨rfl, rfl⟩
  case round =>
    obtain ⟨rfl, rfl⟩ := hrel
    go_wp2_with fail
    go_ret
    exact FP.yes HP.out HB.out
set_option maxHeartbeats 2000000 in
set_option maxRecDepth 100000 in
theorem shape_n2 (b b' : Nat) (hC : ∀ w, Calls Try.prog 86 #[.int .u64 (b : Int)] w fun e w' => e = .returned (.int .u64 (b' : Int)) ∧ w' = w) (h : ¬ b' = b) (a : Option Addr) (c : Nat) (d : Int) (w : World) (p : Prop) (hp : ¬ p) :
    Calls Try.prog 75 #[.agg #[.int .i64 2, .int .i64 0, .int .u64 (b : Int), .string ⟨#[]⟩, .slice a 0 c], .int .i64 d] w (FP p w) := by
  have HP : Hid (¬ p) := hp
  have HC : Hid (∀ w, Calls Try.prog 86 #[.int .u64 (b : Int)] w fun e w' => e = .returned (.int .u64 (b' : Int)) ∧ w' = w) := hC
  clear hp
  have f1 : ((b : Int) != (b' : Int)) = true := by simp; omega
  have f2 : (b != b') = true := by simp; omega
  clear h hC
  go_enter Try.func75, Try.ntmps75
  go_wp2_with fail
  refine wp_region_quiet_lit (by kernel_rfl) (by kernel_rfl) ?_
  repeat (go_big_quiet_step (first | (go_at_call 86; exact Calls.quiet_of_same (HC.out _))))
  refine wpQuiet_nil ?_
  intro _ hw'
  obtain ⟨nq, hw''⟩ := hw'
  subst hw''
  go_wp2_with fail
  go_ret
  exact FP.no HP.out (bel2 (bel1 _ _) (belN _ _))
set_option maxHeartbeats 2000000 in
set_option maxRecDepth 100000 in
theorem shape_y3 (s : ByteArray) (h : s.size ≤ 200) (a : Option Addr) (c : Nat) (d : Int) (w : World) (p : Prop) (hp : p) :
    Calls Try.prog 75 #[.agg #[.int .i64 3, .int .i64 0, .int .u64 0, .string s, .slice a 0 c], .int .i64 d] w (FP p w) := by
  have HP : Hid (p) := hp
  have HC : Hid (∀ w, Calls Try.prog 86 #[.int .u64 0] w fun e w' => e = .returned (.int .u64 0) ∧ w' = w) := fun w => refCanon_calls 0 w
  clear hp
  have f1 : decide (200 < (s.size : Int)) = false := decide_eq_false (by omega)
  have f2 : decide (200 < s.size) = false := decide_eq_false (by omega)
  clear h
  go_enter Try.func75, Try.ntmps75
  go_wp2_with fail
  refine wp_region_quiet_lit (by kernel_rfl) (by kernel_rfl) ?_
  repeat (go_big_quiet_step (first | (go_at_call 86; exact Calls.quiet_of_same (HC.out _))))
  refine wpQuiet_nil ?_
  intro _ hw'
  obtain ⟨nq, hw''⟩ := hw'
  subst hw''
  generalize hW0 : w.alloc (Obj.cells #[.int .i64 3, .int .i64 0, .int .u64 0, .string s, .slice a 0 c] 25) = W0
  have hg : (W0.drewN nq).cell? ⟨w.heap.size, 4, none⟩ = some (.slice a 0 c) := by subst hW0; rw [World.cell?_drewN]; go_simp
  have HB : Hid (Below w.heap.size w (W0.drewN nq)) := by subst hW0; exact bel2 (bel1 _ _) (belN _ _)
  generalize W0.drewN nq = W1 at hg HB ⊢
  clear hW0
  go_wp2_with fail
  go_loopw [5] (fun i wr => i = .int .i64 0 ∧ wr = W1) (fun _ _ => 0)
  case atStart => exact ⟨rfl, rfl⟩
  case round =>
    obtain ⟨rfl, rfl⟩ := hrel
    go_wp2_with fail
    go_ret
    exact FP.yes HP.out HB.out
set_option maxHeartbeats 2000000 in
set_option maxRecDepth 100000 in
theorem shape_n3 (s : ByteArray) (h : ¬ s.size ≤ 200) (a : Option Addr) (c : Nat) (d : Int) (w : World) (p : Prop) (hp : ¬ p) :
    Calls Try.prog 75 #[.agg #[.int .i64 3, .int .i64 0, .int .u64 0, .string s, .slice a 0 c], .int .i64 d] w (FP p w) := by
  have HP : Hid (¬ p) := hp
  have HC : Hid (∀ w, Calls Try.prog 86 #[.int .u64 0] w fun e w' => e = .returned (.int .u64 0) ∧ w' = w) := fun w => refCanon_calls 0 w
  clear hp
  have f1 : decide (200 < (s.size : Int)) = true := decide_eq_true (by omega)
  have f2 : decide (200 < s.size) = true := decide_eq_true (by omega)
  clear h
  go_enter Try.func75, Try.ntmps75
  go_wp2_with fail
  refine wp_region_quiet_lit (by kernel_rfl) (by kernel_rfl) ?_
  repeat (go_big_quiet_step (first | (go_at_call 86; exact Calls.quiet_of_same (HC.out _))))
  refine wpQuiet_nil ?_
  intro _ hw'
  obtain ⟨nq, hw''⟩ := hw'
  subst hw''
  go_wp2_with fail
  go_ret
  exact FP.no HP.out (bel2 (bel1 _ _) (belN _ _))
set_option maxHeartbeats 2000000 in
set_option maxRecDepth 100000 in
theorem shape_n4 (N : Nat) (h : ¬ N ≤ 12) (a : Option Addr) (c : Nat) (d : Int) (w : World) (p : Prop) (hp : ¬ p) :
    Calls Try.prog 75 #[.agg #[.int .i64 4, .int .i64 0, .int .u64 0, .string ⟨#[]⟩, .slice a N c], .int .i64 d] w (FP p w) := by
  have HP : Hid (¬ p) := hp
  have HC : Hid (∀ w, Calls Try.prog 86 #[.int .u64 0] w fun e w' => e = .returned (.int .u64 0) ∧ w' = w) := fun w => refCanon_calls 0 w
  clear hp
  have f1 : decide (12 < (N : Int)) = true := decide_eq_true (by omega)
  have f2 : decide (12 < N) = true := decide_eq_true (by omega)
  clear h
  go_enter Try.func75, Try.ntmps75
  go_wp2_with fail
  refine wp_region_quiet_lit (by kernel_rfl) (by kernel_rfl) ?_
  repeat (go_big_quiet_step (first | (go_at_call 86; exact Calls.quiet_of_same (HC.out _))))
  refine wpQuiet_nil ?_
  intro _ hw'
  obtain ⟨nq, hw''⟩ := hw'
  subst hw''
  go_wp2_with fail
  go_ret
  exact FP.no HP.out (bel2 (bel1 _ _) (belN _ _))
set_option maxHeartbeats 2000000 in
set_option maxRecDepth 100000 in
theorem shape_d4 (N : Nat) (h : N ≤ 12) (a : Option Addr) (c : Nat) (w : World) (p : Prop) (hp : ¬ p) :
    Calls Try.prog 75 #[.agg #[.int .i64 4, .int .i64 0, .int .u64 0, .string ⟨#[]⟩, .slice a N c], .int .i64 0] w (FP p w) := by
  have HP : Hid (¬ p) := hp
  have HC : Hid (∀ w, Calls Try.prog 86 #[.int .u64 0] w fun e w' => e = .returned (.int .u64 0) ∧ w' = w) := fun w => refCanon_calls 0 w
  clear hp
  have f1 : decide (12 < (N : Int)) = false := decide_eq_false (by omega)
  have f2 : decide (12 < N) = false := decide_eq_false (by omega)
  clear h
  go_enter Try.func75, Try.ntmps75
  go_wp2_with fail
  refine wp_region_quiet_lit (by kernel_rfl) (by kernel_rfl) ?_
  repeat (go_big_quiet_step (first | (go_at_call 86; exact Calls.quiet_of_same (HC.out _))))
  refine wpQuiet_nil ?_
  intro _ hw'
  obtain ⟨nq, hw''⟩ := hw'
  subst hw''
  go_wp2_with fail
  go_ret
  exact FP.no HP.out (bel2 (bel1 _ _) (belN _ _))
end Go.Proofs.Ytjmonkhkcmcfiaa
namespace Go.Proofs.Ytjmonkhkcmcfiaa
open Go.ChangeShapes Go.WideShapes Go.ChangeAt Go.RowKit Go.BigFrame
def ShapeAt (n : Nat) : Prop := ∀ (v : Value) (t : Tv) (d : Int) (w : World), 0 ≤ d → d ≤ 4 → Is w n v t → Calls Try.prog 75 #[v, .int .i64 d] w (FP (ShapeT n d t) w)
set_option maxHeartbeats 2000000 in
set_option maxRecDepth 100000 in
theorem shape_y4 (n : Nat) (ih : ShapeAt n) (a : Option Addr) (c : Nat) (l : List Tv) (d : Int) (w : World) (hl : l.length ≤ 12) (d0 : 0 ≤ d) (d4 : d ≤ 4) (hd : d ≠ 0) (hr : Row (Is w n) w a l) (p : Prop) (hp : p ↔ ∀ (i : Nat) t, l[i]? = some t → ShapeT n (d - 1) t) :
    Calls Try.prog 75 #[.agg #[.int .i64 4, .int .i64 0, .int .u64 0, .string ⟨#[]⟩, .slice a l.length c], .int .i64 d] w (FP p w) := by
  obtain ⟨N, hN⟩ : ∃ N, N = l.length := ⟨_, rfl⟩
  obtain ⟨e, he⟩ : ∃ e : Int, e = d - 1 := ⟨_, rfl⟩
  have hw1 : wrap64 (d - 1) = e := by rw [he]; unfold wrap64; omega
  have hw2 : IntKind.i64.wrap (d - 1) = e := by rw [he, IntKind.wrap_i64]; omega
  rw [← hN]
  rw [← he] at hp
  have HP : Hid (p ↔ ∀ (i : Nat) t, l[i]? = some t → ShapeT n e t) := hp
  have HR : Hid (Row (Is w n) w a l) := hr
  have HN : Hid (N = l.length ∧ N ≤ 12) := ⟨hN, by omega⟩
  have HI : Hid (∀ (v : Value) (t : Tv) (w : World), Is w n v t → Calls Try.prog 75 #[v, .int .i64 e] w (FP (ShapeT n e t) w)) := fun v t w h => ih v t e w (by omega) (by omega) h
  have HC : Hid (∀ w, Calls Try.prog 86 #[.int .u64 0] w fun e w' => e = .returned (.int .u64 0) ∧ w' = w) := fun w => refCanon_calls 0 w
  have f1 : decide (12 < (N : Int)) = false := decide_eq_false (by omega)
  have f2 : decide (12 < N) = false := decide_eq_false (by omega)
  have f3 : (d == 0) = false := by simpa using hd
  clear hp hr hN hl d0 d4 hd he ih
  go_enter Try.func75, Try.ntmps75
  go_wp2_with fail
  refine wp_region_quiet_lit (by kernel_rfl) (by kernel_rfl) ?_
  repeat (go_big_quiet_step (first | (go_at_call 86; exact Calls.quiet_of_same (HC.out _))))
  refine wpQuiet_nil ?_
  intro _ hw'
  obtain ⟨nq, hw''⟩ := hw'
  subst hw''
  generalize hW0 : w.alloc (Obj.cells #[.int .i64 4, .int .i64 0, .int .u64 0, .string ⟨#[]⟩, .slice a N c] 25) = W0
  have hg : (W0.drewN nq).cell? ⟨w.heap.size, 4, none⟩ = some (.slice a N c) := by subst hW0; rw [World.cell?_drewN]; go_simp
  have HB : Hid (Below w.heap.size w (W0.drewN nq)) := by subst hW0; exact bel2 (bel1 _ _) (belN _ _)
  have HS : Hid (w.heap.size < (W0.drewN nq).heap.size) := by subst hW0; show _ < _; simp [World.drewN]
  generalize W0.drewN nq = W1 at hg HB HS ⊢
  clear hW0 f1 f2 f3
  have HG : Hid (W1.cell? ⟨w.heap.size, 4, none⟩ = some (.slice a N c)) := hg
  clear hg
  go_wp2_with fail
  go_loopw [5] (fun i wr => ∃ j : Nat, j ≤ N ∧ i = .int .i64 j ∧ Hid (∀ (i : Nat) t, i < j → l[i]? = some t → ShapeT n e t) ∧ Hid (Below W1.heap.size W1 wr)) (fun i _ => N - (intOf i).toNat)
  case atStart => exact ⟨0, Nat.zero_le _, rfl, fun i t hi => absurd hi (Nat.not_lt_zero i), Below.refl _ _⟩
  case round =>
    obtain ⟨j, hj, rfl, HE, HBr⟩ := hrel
    have g0 : wr.cell? ⟨w.heap.size, 4, none⟩ = some (.slice a N c) := (HBr.out.cell HS.out).trans HG.out
    by_cases hlt : j < N
    · have HT : Hid (j < l.length) := by have := HN.out.1; show _ < _; omega
      obtain ⟨B, o, c0, c1, c2, c3, c4, rfl, h5, hi⟩ := HR.out j _ (List.getElem?_eq_getElem HT.out)
      obtain ⟨k', x', b', s', a', m', c', rfl, rfl, rfl, rfl, rfl⟩ := hi.shape
      have HBw := bel2 HB.out HBr.out
      obtain ⟨e0, e1, e2, e3, e4⟩ := h5.below HBw
      have C0 : Hid (Calls Try.prog 75 #[_, .int .i64 e] wr _) := HI.out _ _ wr (hi.below HBw)
      have HW : Hid (wrap64 ((j : Int) + 1) = ((j + 1 : Nat) : Int)) := wr1 hlt (by have := HN.out.2; omega)
      have hjl : (j : Int) < (N : Int) := by omega
      clear hi h5 HBw
      go_wp2_with fail
      refine C0.out.mono ?_
      rintro x w1 ⟨⟨r1, rfl, hr1⟩, hb1⟩
      have HB1 : Hid (Below W1.heap.size W1 w1) := bel2 HBr.out hb1
      have HR1 : Hid (r1 = true ↔ ShapeT n e (l[j]'HT.out)) := hr1
      clear hb1 hr1
      cases r1
      · go_wp2_with fail
        go_ret
        exact FP.no (fun q => by cases HR1.out.2 (HP.out.1 q j _ (List.getElem?_eq_getElem HT.out))) (bel2 HB.out HB1.out)
      · go_wp2_with fail
        refine ⟨⟨j + 1, hlt, by rw [HW.out], fun i t hi ht => ?_, HB1⟩, meas hlt HW.out⟩
        by_cases hij : i = j
        · subst hij
          rw [List.getElem?_eq_getElem HT.out] at ht
          cases ht
          simpa using HR1.out
        · exact HE.out i t (by omega) ht
    · obtain rfl : j = N := by omega
      go_wp2_with fail
      go_ret
      exact FP.yes (HP.out.2 fun i t ht => HE.out i t (by have := (List.getElem?_eq_some_iff.1 ht).1; have := HN.out.1; omega) ht) (bel2 HB.out HBr.out)
theorem shape_calls : ∀ n, ShapeAt n := by
  intro n
  induction n with
  | zero => intro v t d w _ _ h; exact h.elim
  | succ n ih =>
    rintro v ⟨k, x, b, s, l⟩ d w d0 d4 ⟨a, c, rfl, hf, hr⟩
    obtain ⟨b, rfl⟩ : ∃ m : Nat, b = m := ⟨b.toNat, by have := hf.b0; omega⟩
    by_cases hP : Pre1 k x b s l.length
    · obtain ⟨k0, k4, hx, hb, hs, hn⟩ := hP
      have hcn0 : cn 0 = 0 := by decide
      have hz0 : (⟨#[]⟩ : ByteArray).toList = [] := by rw [Lib.toList_data]
      have hsz : ∀ s : ByteArray, s.toList = [] → s = ⟨#[]⟩ := fun s h => tl_inj (h.trans hz0.symm)
      rcases (by omega : k = 0 ∨ k = 1 ∨ k = 2 ∨ k = 3 ∨ k = 4) with rfl | rfl | rfl | rfl | rfl
      · obtain rfl : x = 0 := by omega
        obtain rfl : b = 0 := by omega
        obtain rfl := hsz s (hs.resolve_left (by decide))
        obtain rfl : l = [] := List.eq_nil_of_length_eq_zero (hn.resolve_left (by decide))
        exact shape_y0 a c d w _ ⟨⟨by decide, by decide, .inr rfl, .inr rfl, hcn0, .inr hz0, by decide, .inr rfl, by decide⟩, (fun h => by cases h), (fun i t h => by simp at h)⟩
      · obtain rfl : b = 0 := by omega
        obtain rfl := hsz s (hs.resolve_left (by decide))
        obtain rfl : l = [] := List.eq_nil_of_length_eq_zero (hn.resolve_left (by decide))
        exact shape_y1 x a c d w _ ⟨⟨by decide, by decide, .inl rfl, .inr rfl, hcn0, .inr hz0, by decide, .inr rfl, by decide⟩, (fun h => by cases h), (fun i t h => by simp at h)⟩
      · obtain rfl : x = 0 := by omega
        obtain rfl := hsz s (hs.resolve_left (by decide))
        obtain rfl : l = [] := List.eq_nil_of_length_eq_zero (hn.resolve_left (by decide))
        by_cases hc : cn b = b
        · exact shape_y2 b (cn b) (refCanon_calls b) hc a c d w _ ⟨⟨by decide, by decide, .inr rfl, .inl rfl, hc, .inr hz0, by decide, .inr rfl, by decide⟩, (fun h => by cases h), (fun i t h => by simp at h)⟩
        · exact shape_n2 b (cn b) (refCanon_calls b) hc a c d w _ (fun q => hc q.1.2.2.2.2.1)
      · obtain rfl : x = 0 := by omega
        obtain rfl : b = 0 := by omega
        obtain rfl : l = [] := List.eq_nil_of_length_eq_zero (hn.resolve_left (by decide))
        by_cases hc : s.size ≤ 200
        · exact shape_y3 s hc a c d w _ ⟨⟨by decide, by decide, .inr rfl, .inr rfl, hcn0, .inl rfl, hc, .inr rfl, by decide⟩, (fun h => by cases h), (fun i t h => by simp at h)⟩
        · exact shape_n3 s hc a c d w _ (fun q => hc q.1.2.2.2.2.2.2.1)
      · obtain rfl : x = 0 := by omega
        obtain rfl : b = 0 := by omega
        obtain rfl := hsz s (hs.resolve_left (by decide))
        by_cases hc : l.length ≤ 12
        · by_cases hd : d = 0
          · subst hd
            exact shape_d4 l.length hc a c w _ (fun q => q.2.1 rfl rfl)
          · exact shape_y4 n ih a c l d w hc d0 d4 hd hr _ ⟨fun q => q.2.2, fun q => ⟨⟨by decide, by decide, .inr rfl, .inr rfl, hcn0, .inr hz0, by decide, .inl rfl, hc⟩, (fun _ => hd), q⟩⟩
        · exact shape_n4 l.length hc a c d w _ (fun q => hc q.1.2.2.2.2.2.2.2.2)
    · refine shape_no1 k x b s a l.length c d w _ (fun q => hP ?_) hP
      obtain ⟨q1, q2, q3, q4, _, q6, _, q8, _⟩ := q.1
      exact ⟨q1, q2, q3, by simpa using q4, q6, q8⟩
end Go.Proofs.Ytjmonkhkcmcfiaa
namespace Go.Proofs.Ytjmonkhkcmcfiaa
open Go.ChangeShapes Go.WideShapes Go.ChangeAt Go.RowKit Go.BigFrame
set_option maxHeartbeats 2000000 in
set_option maxRecDepth 100000 in
theorem bytes_list (n d : Nat) (ih : BytesAt n) (x : Int) (b : Int) (s : ByteArray) (a : Option Addr) (c : Nat) (l : List Tv) (bv : Value) (L : List UInt8) (w : World) (hn : l.length ≤ 12) (hr : Row (Is w n) w a l) (hs : ∀ (i : Nat) t, l[i]? = some t → ShapeT n (d : Int) t) (hv : Lib.HoldsBytes w bv L) (hl : L.length + BD (d + 1) ≤ 70368744177663) :
    Calls Try.prog 53 #[bv, .agg #[.int .i64 4, .int .i64 x, .int .u64 b, .string s, .slice a l.length c]] w (RH w (L ++ enc 4 ++ enc l.length ++ (l.map (bytesT n)).flatten)) := by
  have hbd : ∀ (i : Nat) t, l[i]? = some t → (bytesT n t).length ≤ BD d := fun i t ht => bytes_bd n d t (hs i t ht)
  have hfl : ∀ j, (((l.take j).map (bytesT n)).flatten).length ≤ 12 * BD d := fun j => by
    have h1 := flat_le (n := n) (l := l) (j := j)
    have h2 := flat_bd l hbd
    have h3 : l.length * BD d ≤ 12 * BD d := Nat.mul_le_mul_right _ hn
    omega
  have e1 : (enc 4).length = 1 := enc_one (by omega)
  have e2 : (enc l.length).length = 1 := enc_one hn
  simp only [BD] at hl
  have HN : Hid (∀ W, Below w.heap.size w W → Calls Try.prog 22 #[bv, .int .i64 4] W (RB W (L ++ enc 4))) := fun W hB => refNum_calls bv L 4 (by omega) W (holds_below hv hB) (by omega)
  have HM : Hid (∀ W v, Lib.HoldsBytes W v (L ++ enc 4) → Calls Try.prog 22 #[v, .int .i64 (l.length : Int)] W (RB W (L ++ enc 4 ++ enc l.length))) := fun W v h => by
    have := refNum_calls v (L ++ enc 4) (l.length : Int) (by omega) W h (by rw [List.length_append]; omega)
    rwa [Int.toNat_natCast] at this
  obtain ⟨M, hM⟩ : ∃ M, M = L ++ enc 4 ++ enc l.length := ⟨_, rfl⟩
  have hml : M.length = L.length + 2 := by rw [hM, List.length_append, List.length_append]; omega
  rw [← hM] at HM ⊢
  obtain ⟨bp, bm, bc, rfl⟩ := holds_sliceY hv
  have HI : Hid (∀ (j : Nat) (hj : j < l.length) (v : Value) (bv : Value) (W : World), Is W n v (l[j]) → Lib.HoldsBytes W bv (M ++ ((l.take j).map (bytesT n)).flatten) → Calls Try.prog 53 #[bv, v] W (RH W (M ++ ((l.take (j + 1)).map (bytesT n)).flatten))) := fun j hj v bv W hi hb => by
    have := ih d v l[j] bv _ W hi (hs j _ (List.getElem?_eq_getElem hj)) hb (by rw [List.length_append]; have := hfl j; omega)
    rwa [List.append_assoc, ← flat_more hj] at this
  have HR : Hid (Row (Is w n) w a l) := hr
  obtain ⟨N, hN⟩ : ∃ N, N = l.length := ⟨_, rfl⟩
  rw [← hN] at HM ⊢
  have HNN : Hid (N = l.length ∧ N ≤ 12) := ⟨hN, by omega⟩
  clear hr hv hl hs hbd hfl e1 e2 hM hml hN hn ih
  go_enter Try.func53, Try.ntmps53
  go_wp2_with fail
  refine (HN.out _ (bel1 _ _)).mono ?_
  rintro e w1 ⟨v1, rfl, ho, hb⟩
  have HV : Hid (Lib.HoldsBytes w1 v1 _) := own_holds ho
  have HB : Hid (Below w.heap.size w w1) := bel2 (bel1 _ _) hb
  have HP : Hid (At5 w1 w.heap.size 0 (.int .i64 4) (.int .i64 x) (.int .u64 b) (.string s) (.slice a N c)) := (box_at w (.int .i64 4) (.int .i64 x) (.int .u64 b) (.string s) (.slice a N c)).below hb
  clear ho hb
  obtain ⟨p0, p1, p2, p3, p4⟩ := HP.out
  go_wp2_with fail
  refine (HM.out _ _ HV.out).mono ?_
  rintro e w2 ⟨v2, rfl, ho, hb⟩
  have HV2 : Hid (Lib.HoldsBytes w2 v2 M) := own_holds ho
  have HB2 : Hid (Below w.heap.size w w2) := bel2 HB.out hb
  have HP2 : Hid (At5 w2 w.heap.size 0 (.int .i64 4) (.int .i64 x) (.int .u64 b) (.string s) (.slice a N c)) := HP.out.below hb
  clear ho hb p0 p1 p2 p3 p4
  go_wp2_with fail
  go_loopw [0, 5] (fun bb i wr => ∃ j : Nat, j ≤ N ∧ i = .int .i64 j ∧ Hid (Lib.HoldsBytes wr bb (M ++ ((l.take j).map (bytesT n)).flatten)) ∧ Hid (Below w2.heap.size w2 wr)) (fun _ i _ => N - (intOf i).toNat)
  case atStart => exact ⟨0, Nat.zero_le _, rfl, by simpa using HV2, Below.refl _ _⟩
  case round =>
    obtain ⟨j, hj, rfl, HE, HBr⟩ := hrel
    obtain ⟨p0, p1, p2, p3, p4⟩ := HP2.out.below HBr.out
    by_cases hlt : j < N
    · have HT : Hid (j < l.length) := by have := HNN.out.1; show _ < _; omega
      obtain ⟨B, o, c0, c1, c2, c3, c4, rfl, h5, hi⟩ := HR.out j _ (List.getElem?_eq_getElem HT.out)
      obtain ⟨k', x', b', s', a', m', c', rfl, rfl, rfl, rfl, rfl⟩ := hi.shape
      have HBw := bel2 HB2.out HBr.out
      obtain ⟨e0, e1, e2, e3, e4⟩ := h5.below HBw
      have C0 : Hid (Calls Try.prog 53 #[_, _] wr _) := HI.out j HT.out _ _ wr (hi.below HBw) HE.out
      have HW : Hid (wrap64 ((j : Int) + 1) = ((j + 1 : Nat) : Int)) := wr1 hlt (by have := HNN.out.2; omega)
      have hjl : (j : Int) < (N : Int) := by omega
      clear hi h5 HBw
      go_wp2_with fail
      refine C0.out.mono ?_
      rintro x w3 ⟨v3, rfl, hv3, hb3⟩
      have HV3 : Hid (Lib.HoldsBytes w3 v3 _) := hv3
      have HB3 : Hid (Below w2.heap.size w2 w3) := bel2 HBr.out hb3
      clear hv3 hb3
      go_wp2_with fail
      exact ⟨⟨j + 1, hlt, by rw [HW.out], HV3, HB3⟩, meas hlt HW.out⟩
    · obtain rfl : j = N := by omega
      go_wp2_with fail
      go_ret
      refine ⟨_, rfl, ?_, bel2 HB2.out HBr.out⟩
      have := HE.out
      rwa [List.take_of_length_le (by have := HNN.out.1; omega)] at this
theorem bytes_calls45 : ∀ n, BytesAt n := by
  intro n
  induction n with
  | zero => intro d v t b L w h; exact h.elim
  | succ n ih =>
    rintro d v ⟨k, x, b, s, l⟩ bv L w ⟨a, c, rfl, hf, hr⟩ ⟨hfi, hk, hs⟩ hv hl
    obtain ⟨b, rfl⟩ : ∃ m : Nat, b = m := ⟨b.toNat, by have := hf.b0; omega⟩
    obtain ⟨k0, k4, _, _, _, _, hsz, hn0, hn⟩ := hfi
    have hd : 210 ≤ BD d := by cases d <;> simp [BD]
    by_cases h4 : k = 4
    · subst h4
      obtain ⟨d', rfl⟩ : ∃ d', d = d' + 1 := ⟨d - 1, by have := hk rfl; omega⟩
      have := bytes_list n d' ih x b s a c l bv L w hn hr (fun i t ht => by have := hs i t ht; rwa [show (((d' + 1 : Nat) : Int) - 1) = (d' : Int) by omega] at this) hv hl
      unfold bytesT
      rw [if_neg (by decide), if_neg (by decide), if_neg (by decide), if_pos rfl, ← List.append_assoc, ← List.append_assoc]
      exact this
    · obtain rfl : l = [] := List.eq_nil_of_length_eq_zero (hn0.resolve_left h4)
      have hx : (Lit.int .i64 x).wf = true := by
        have h1 := hf.x0
        have h2 := hf.x1
        simp only [Lit.wf, IntKind.min, IntKind.max, IntKind.signed, IntKind.bits, Bool.and_eq_true, decide_eq_true_eq, if_true]
        omega
      have := bytes_flat k x b s a c bv L w k0 (by omega) hx (by have := hf.b1; omega) hsz hv (by omega)
      unfold bytesT
      rw [if_neg (c := k = 4) h4, Int.toNat_natCast]
      exact this
end Go.Proofs.Ytjmonkhkcmcfiaa
namespace Go.Proofs.Ytjmonkhkcmcfiaa
open Go.ChangeShapes Go.WideShapes Go.ChangeAt Go.RowKit Go.BigFrame
/-- What a Check says. -/
def VkP (w : World) (p : Prop) (e : Ending) (w' : World) : Prop := (∃ r : Int, e = .returned (.int .i64 r) ∧ (p → r = 0) ∧ (¬ p → r = 1)) ∧ Below w.heap.size w w'
theorem holds_len {w : World} {v : Value} {l : List UInt8} (h : Lib.HoldsBytes w v l) : ∃ p c, v = .slice p l.length c := by obtain ⟨p, c, rfl, _⟩ := h; exact ⟨_, _, rfl⟩
set_option maxHeartbeats 2000000 in
set_option maxRecDepth 100000 in
theorem rcheck_calls (n : Nat) (v : Value) (t : Tv) (w : World) (h : Is w n v t) : Calls Try.prog 49 #[v] w (VkP w (May n t)) := by
  have HS : Hid (∀ W, Below w.heap.size w W → Calls Try.prog 75 #[v, .int .i64 4] W (FP (ShapeT n 4 t) W)) := fun W hB => shape_calls n v t 4 W (by omega) (by omega) (h.below hB)
  have HBy : Hid (ShapeT n 4 t → ∀ W, Below w.heap.size w W → Calls Try.prog 53 #[.slice none 0 0, v] W (RH W (bytesT n t))) := fun hs W hB => by
    have := bytes_calls45 n 4 v t (.slice none 0 0) [] W (h.below hB) hs (holds_nil W) (by simp [BD])
    rwa [List.nil_append] at this
  obtain ⟨k, x, b, s, a, m, c, rfl⟩ : ∃ k x b s a m c, v = .agg #[.int .i64 k, .int .i64 x, .int .u64 b, .string s, .slice a m c] := by
    cases n with
    | zero => exact h.elim
    | succ n => obtain ⟨k, x, b, s, l⟩ := t; obtain ⟨a, c, rfl, _⟩ := h; exact ⟨_, _, _, _, _, _, _, rfl⟩
  clear h
  go_enter Try.func49, Try.ntmps49
  go_wp2_with fail
  refine (HS.out _ (bel1 _ _)).mono ?_
  rintro e w1 ⟨⟨r1, rfl, hr1⟩, hb1⟩
  have HB1 : Hid (Below w.heap.size w w1) := bel2 (bel1 _ _) hb1
  have HR1 : Hid (r1 = true ↔ ShapeT n 4 t) := hr1
  obtain ⟨p0, p1, p2, p3, p4⟩ := (box_at w (.int .i64 k) (.int .i64 x) (.int .u64 b) (.string s) (.slice a m c)).below hb1
  clear hb1 hr1
  cases r1 with
  | false =>
    go_wp2_with fail
    go_ret
    exact ⟨⟨1, rfl, fun q => (by cases HR1.out.2 q.1), fun _ => rfl⟩, HB1.out⟩
  | true =>
    have HSh : Hid (ShapeT n 4 t) := HR1.out.1 rfl
    clear HR1
    go_wp2_with fail
    refine (HBy.out HSh.out w1 HB1.out).mono ?_
    rintro e w2 ⟨v2, rfl, hv2, hb2⟩
    have HB2 : Hid (Below w.heap.size w w2) := bel2 HB1.out hb2
    obtain ⟨vp, vc, rfl⟩ := holds_len hv2
    clear hb2 hv2 p0 p1 p2 p3 p4
    obtain ⟨Z, hZ⟩ : ∃ Z, Z = (bytesT n t).length := ⟨_, rfl⟩
    have HZ : Hid (Z = (bytesT n t).length) := hZ
    rw [← hZ]
    clear hZ
    by_cases hb : 1000 < Z
    · have f1 : decide (1000 < (Z : Int)) = true := decide_eq_true (by omega)
      have f2 : decide (1000 < Z) = true := decide_eq_true hb
      have HH : Hid (1000 < Z) := hb
      clear hb
      go_wp2_with fail
      go_ret
      exact ⟨⟨1, rfl, fun q => absurd q.2 (by have := HH.out; have := HZ.out; omega), fun _ => rfl⟩, HB2.out⟩
    · have f1 : decide (1000 < (Z : Int)) = false := decide_eq_false (by omega)
      have f2 : decide (1000 < Z) = false := decide_eq_false hb
      have HH : Hid (¬ 1000 < Z) := hb
      clear hb
      go_wp2_with fail
      go_ret
      exact ⟨⟨0, rfl, fun _ => rfl, fun q => absurd ⟨HSh.out, by have := HH.out; have := HZ.out; omega⟩ q⟩, HB2.out⟩
end Go.Proofs.Ytjmonkhkcmcfiaa
