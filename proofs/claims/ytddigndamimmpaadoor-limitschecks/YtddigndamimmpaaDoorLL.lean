/- limits: the two Checks say the same; the walk of LimitsChecks. -/
import Derived.Test.YtddigndamimmpaaDoorLH
import Derived.Test.YtddigndamimmpaaDoorLQ
import Derived.Test.YtddigndamimmpaaDoorLI
import Derived.Test.YtddigndamimmpaaDoorLJ
import Derived.Test.YtddigndamimmpaaDoorLK
import Derived.Test.YtddigndamimmpaaDoorQC
namespace Go.Proofs.YtddigndamimmpaaDoor
open Go.ChangeShapes Go.WideShapes Go.ChangeAt Go.RowKit
theorem toList_loop (s : ByteArray) : ∀ (n i : Nat) (r : List UInt8), s.size - i = n → (ByteArray.toList.loop s i r).length = r.length + n := by
  intro n
  induction n with
  | zero => intro i r h; unfold ByteArray.toList.loop; rw [if_neg (by omega)]; simp
  | succ n ih =>
    intro i r h
    unfold ByteArray.toList.loop
    rw [if_pos (by omega), ih (i + 1) _ (by omega)]
    simp; omega
theorem toList_nil {s : ByteArray} (h : s.toList = []) : s = ⟨#[]⟩ := by
  have h1 := toList_loop s s.size 0 [] (by omega)
  have h2 : (ByteArray.toList.loop s 0 []).length = 0 := by
    have : ByteArray.toList.loop s 0 [] = [] := h
    rw [this]; rfl
  have h3 : s.size = 0 := by simp at h1; omega
  exact ByteArray.ext (Array.size_eq_zero_iff.1 h3)
theorem is_zero {W : World} {n : Nat} {vk vx vb : Int} {vs : ByteArray} {la : Option Addr} {ll lc : Nat} {tv : Tv} (h : Is W (n + 1) (.agg #[.int .i64 vk, .int .i64 vx, .int .u64 vb, .string vs, .slice la ll lc]) tv) (hm : May (n + 1) tv) : vk = 0 ↔ tv = zE := by
  obtain ⟨k, x, b, s, l⟩ := tv
  obtain ⟨a, c, e, hfit, _⟩ := h
  simp only [Value.agg.injEq, List.toArray_eq_toArray_eq, List.cons.injEq, Value.int.injEq, true_and] at e
  obtain ⟨rfl, -⟩ := e
  constructor
  · rintro rfl
    have hf := hm.1.1
    unfold Fits FitsB at hf
    obtain ⟨_, _, h1, h2, _, h3, _, h4, _⟩ := hf
    have e1 : x = 0 := by omega
    have e2 : b = 0 := by have := hfit.b0; omega
    have e4 : l = [] := by
      have : l.length = 0 := by omega
      exact List.length_eq_zero_iff.1 this
    have e3 : s = ⟨#[]⟩ := by
      rcases h3 with h3 | h3
      · omega
      · exact toList_nil h3
    rw [e1, e2, e3, e4]
    rfl
  · intro h
    simp only [zE, Tv.mk.injEq] at h
    exact h.1
/-- What the reference's Check says, but for the lists. -/
def RfR (n : Nat) (tv : Tv) (k : Int) (f q m : ByteArray) (ru nu wa pf : Int) (pc : Nat) (pm : Int) (cn an : Nat) : Prop :=
  (fld k ≠ 0 ∧ EmR (hs k 1) (hs k 2) (hs k 3) (hs k 4) (hs k 5) (hs k 6) (hs k 7) (hs k 8) tv q m ru nu wa pf pc pm cn an ∧ NmR n tv k f q m ∧ wi nu (nb2.getD k.toNat (0, 0)).1 (nb2.getD k.toNat (0, 0)).2 = true ∧ (hs k 4 = true → 1 ≤ ru ∧ ru ≤ 10) ∧ (0 ≤ wa ∧ wa ≤ 1073741824)) ∧ (hs k 7 = true → may pf pc pm = true)
theorem all8 {p : Nat → Prop} : (∀ j : Nat, j < 8 → p j) ↔ p 0 ∧ p 1 ∧ p 2 ∧ p 3 ∧ p 4 ∧ p 5 ∧ p 6 ∧ p 7 := by
  constructor
  · intro h
    exact ⟨h 0 (by decide), h 1 (by decide), h 2 (by decide), h 3 (by decide), h 4 (by decide), h 5 (by decide), h 6 (by decide), h 7 (by decide)⟩
  · rintro ⟨h0, h1, h2, h3, h4, h5, h6, h7⟩ j hj
    have : j = 0 ∨ j = 1 ∨ j = 2 ∨ j = 3 ∨ j = 4 ∨ j = 5 ∨ j = 6 ∨ j = 7 := by omega
    rcases this with rfl | rfl | rfl | rfl | rfl | rfl | rfl | rfl <;> assumption
theorem imp_or {a b : Bool} {P : Prop} (h : a = true ↔ ¬ P) : (a = true → b = true) ↔ (b = true ∨ P) := by
  by_cases p : P
  · have : a = false := by cases a <;> simp_all
    simp [this, p]
  · have : a = true := h.2 p
    simp [this, p]
theorem h712 (k : Int) (h : k = 7 ∨ k = 12) : hs k 2 = true := by rcases h with rfl | rfl <;> decide +kernel
theorem txt_iff (k : Int) (f q m : ByteArray) : txt (hs k 1) (hs k 2) k f q m = true ↔ nmB f = true ∧ (hs k 1 = true → nmB q = true) ∧ (if k = 7 ∨ k = 12 then m.size ≤ 200 else hs k 2 = true → nmB m = true) := by
  unfold txt
  by_cases hk : k = 7 ∨ k = 12
  · have h2 := h712 k hk
    have hb : (k == 7 || k == 12) = true := by simpa using hk
    rw [if_pos hk, h2, if_pos rfl, if_pos hb]
    cases nmB f <;> cases hs k 1 <;> cases nmB q <;> simp
  · have hb : (k == 7 || k == 12) = false := by simpa using hk
    rw [if_neg hk, hb]
    cases nmB f <;> cases hs k 1 <;> cases nmB q <;> cases hs k 2 <;> cases nmB m <;> simp
theorem ok_iff {W : World} {n : Nat} {vk vx vb : Int} {vs : ByteArray} {la : Option Addr} {ll lc : Nat} {tv : Tv} (hv : Is W (n + 1) (.agg #[.int .i64 vk, .int .i64 vx, .int .u64 vb, .string vs, .slice la ll lc]) tv) (k : Int) (f q m : ByteArray) (ru nu wa pf : Int) (pc : Nat) (pm : Int) (cn an : Nat) : RfR n tv k f q m ru nu wa pf pc pm cn an ↔ Ok1 n tv k f q m vk ru nu wa pf pc pm cn an := by
  have z0 : may 0 0 0 = true := by decide +kernel
  unfold RfR Ok1 EmR NmR nbf
  rw [fld_ne, txt_iff, all8]
  by_cases hm : May (n + 1) tv
  · have hz := is_zero hv hm
    rw [imp_or (a := fbs q m vk ru nu wa pf pc pm cn an 0) (P := q.toList.isEmpty = true) (by simp [fbs]), imp_or (a := fbs q m vk ru nu wa pf pc pm cn an 1) (P := m.toList.isEmpty = true) (by simp [fbs]), imp_or (a := fbs q m vk ru nu wa pf pc pm cn an 2) (P := tv = zE) (by rw [← hz]; simp [fbs]), imp_or (a := fbs q m vk ru nu wa pf pc pm cn an 3) (P := ru = 0) (by simp [fbs]), imp_or (a := fbs q m vk ru nu wa pf pc pm cn an 4) (P := nu = 0) (by simp [fbs]), imp_or (a := fbs q m vk ru nu wa pf pc pm cn an 5) (P := wa = 0) (by simp [fbs]), imp_or (a := fbs q m vk ru nu wa pf pc pm cn an 6) (P := pf = 0 ∧ pc = 0 ∧ pm = 0) (by by_cases q1 : pf = 0 <;> by_cases q2 : pc = 0 <;> by_cases q3 : pm = 0 <;> simp [fbs, q1, q2, q3]), imp_or (a := fbs q m vk ru nu wa pf pc pm cn an 7) (P := cn = 0 ∧ an = 0) (by simp [fbs]; omega)]
    constructor
    · rintro ⟨⟨h0, he, ⟨h1, h2, _, h3⟩, h4, h5, h6⟩, h7⟩
      refine ⟨h0, he, ⟨h1, h2, h3⟩, ?_, hm, ?_⟩
      · simp only [Bool.and_eq_true, Bool.or_eq_true, Bool.not_eq_true']
        refine ⟨⟨h4, ?_⟩, by simp [wi, h6.1, h6.2]⟩
        cases hh : hs k 4
        · exact .inl rfl
        · have := h5 hh
          exact .inr (by simp [wi, this.1, this.2])
      · cases hh : hs k 7
        · rcases he.2.2.2.2.2.2.1 with h | ⟨rfl, rfl, rfl⟩
          · rw [hh] at h; cases h
          · exact z0
        · exact h7 hh
    · rintro ⟨h0, he, ⟨h1, h2, h3⟩, h4, _, h7⟩
      simp only [Bool.and_eq_true, Bool.or_eq_true, Bool.not_eq_true'] at h4
      obtain ⟨⟨h4, h5⟩, h6⟩ := h4
      refine ⟨⟨h0, he, ⟨h1, h2, hm, h3⟩, h4, fun hh => ?_, ?_⟩, fun _ => h7⟩
      · rcases h5 with h5 | h5
        · rw [hh] at h5; cases h5
        · simpa [wi] using h5
      · simpa [wi] using h6
  · simp only [hm, false_and, and_false]
theorem ok3_iff (n : Nat) (l : List Cm) (al : List An) (nu : Int) (cn : Nat) : ((Cmay n l ∧ Amay (n + 1) al) ∧ (cn = 0 ∨ nu ≠ 0)) ↔ Ok3 n l al nu cn := by
  unfold Ok3
  constructor
  · rintro ⟨⟨a, b⟩, c⟩; exact ⟨⟨a, c⟩, b⟩
  · rintro ⟨⟨a, c⟩, b⟩; exact ⟨⟨a, b⟩, c⟩
theorem rlcheck_calls (n : Nat) (tv : Tv) (l : List Cm) (al : List An) (k : Int) (f q m : ByteArray) (vk vx vb : Int) (vs : ByteArray) (la : Option Addr) (ll lc : Nat) (ru nu wa pf : Int) (pc : Nat) (pm : Int) (ca : Option Addr) (cn cc : Nat) (aa : Option Addr) (an ac : Nat) (w : World) (hv : Is w (n + 1) (.agg #[.int .i64 vk, .int .i64 vx, .int .u64 vb, .string vs, .slice la ll lc]) tv) (hC : Cms w n ca l) (hA : Ans w (n + 1) aa al) (hcn : cn = l.length) (han : an = al.length) (hs0 : cn + an ≤ 60) :
    Calls Tryd.prog 8 #[.agg #[.int .i64 k, .string f, .string q, .string m, .int .i64 vk, .int .i64 vx, .int .u64 vb, .string vs, .slice la ll lc, .int .i64 ru, .int .i64 nu, .int .i64 wa, .int .i64 pf, .int .u64 (pc : Int), .int .i64 pm, .slice ca cn cc, .slice aa an ac]] w (LkP (Ok1 n tv k f q m vk ru nu wa pf pc pm cn an) (cn ≤ 12 ∧ an ≤ 8) (Ok3 n l al nu cn) w) := by
  have e := rcheck_gen (fld k) (EmR (hs k 1) (hs k 2) (hs k 3) (hs k 4) (hs k 5) (hs k 6) (hs k 7) (hs k 8) tv q m ru nu wa pf pc pm cn an) (NmR n tv k f q m) (wi nu (nb2.getD k.toNat (0, 0)).1 (nb2.getD k.toNat (0, 0)).2) (hs k 4) (hs k 7) (may pf pc pm) n l al k f q m vk vx vb vs la ll lc ru nu wa pf pc pm ca cn cc aa an ac w (fun W => rfields_calls k W) (fun h0 W hB => rempty_calls n tv k f q m vk vx vb vs la ll lc ru nu wa pf pc pm ca cn cc aa an ac W (hv.below hB) (by omega) h0) (fun W hB => rnamed_calls n tv k f q m vk vx vb vs la ll lc ru nu wa pf pc pm ca cn cc aa an ac W (hv.below hB)) (fun h0 W => rnum_calls k f q m vk vx vb vs la ll lc ru nu wa pf pc pm ca cn cc aa an ac W ((fld_ne k).1 h0)) (fun W => has_4 k W) (fun W => has_7 k W) (fun W => refCheck_calls pf pc pm W) hC hA hcn han
  rw [ok3_iff] at e
  exact e.mono fun e w' h => LkP.of (ok_iff hv k f q m ru nu wa pf pc pm cn an) h
set_option maxHeartbeats 4000000 in
set_option maxRecDepth 100000 in
theorem lchecks_gen (bF : Bool) (r0 : Int) (k : Int) (f q m : ByteArray) (vk vx vb : Int) (vs : ByteArray) (la : Option Addr) (ll lc : Nat) (ru nu wa pf : Int) (pc : Nat) (pm : Int) (ca : Option Addr) (cn cc : Nat) (aa : Option Addr) (an ac : Nat) (w : World)
    (hFew : ∀ W, Calls Tryd.prog 6 #[.agg #[.int .i64 k, .string f, .string q, .string m, .int .i64 vk, .int .i64 vx, .int .u64 vb, .string vs, .slice la ll lc, .int .i64 ru, .int .i64 nu, .int .i64 wa, .int .i64 pf, .int .u64 (pc : Int), .int .i64 pm, .slice ca cn cc, .slice aa an ac]] W fun e w' => e = .returned (.bool bF) ∧ Below W.heap.size W w')
    (h7 : ∀ W, Below w.heap.size w W → Calls Tryd.prog 7 #[.agg #[.int .i64 k, .string f, .string q, .string m, .int .i64 vk, .int .i64 vx, .int .u64 vb, .string vs, .slice la ll lc, .int .i64 ru, .int .i64 nu, .int .i64 wa, .int .i64 pf, .int .u64 (pc : Int), .int .i64 pm, .slice ca cn cc, .slice aa an ac]] W fun e w' => e = .returned (.int .i64 r0) ∧ Below W.heap.size W w')
    (h8 : bF = true → ∀ W, Below w.heap.size w W → Calls Tryd.prog 8 #[.agg #[.int .i64 k, .string f, .string q, .string m, .int .i64 vk, .int .i64 vx, .int .u64 vb, .string vs, .slice la ll lc, .int .i64 ru, .int .i64 nu, .int .i64 wa, .int .i64 pf, .int .u64 (pc : Int), .int .i64 pm, .slice ca cn cc, .slice aa an ac]] W fun e w' => e = .returned (.int .i64 r0) ∧ Below W.heap.size W w')
    (hAw : ∀ W, Below w.heap.size w W → Calls Tryd.prog 9 #[] W fun e w' => e = .returned (.bool true) ∧ Below W.heap.size W w') :
    Calls Tryd.prog 3 #[.agg #[.int .i64 k, .string f, .string q, .string m, .int .i64 vk, .int .i64 vx, .int .u64 vb, .string vs, .slice la ll lc, .int .i64 ru, .int .i64 nu, .int .i64 wa, .int .i64 pf, .int .u64 (pc : Int), .int .i64 pm, .slice ca cn cc, .slice aa an ac]] w fun e w' => e = .returned (.bool true) ∧ Below w.heap.size w w' := by
  have HFew : Hid _ := hFew
  have H7 : Hid _ := h7
  have H8' : Hid _ := h8
  have HAw : Hid _ := hAw
  clear hFew h7 h8 hAw
  have HB : Hid (Below w.heap.size w (w.alloc (.cells #[.int .i64 k, .string f, .string q, .string m, .int .i64 vk, .int .i64 vx, .int .u64 vb, .string vs, .slice la ll lc, .int .i64 ru, .int .i64 nu, .int .i64 wa, .int .i64 pf, .int .u64 (pc : Int), .int .i64 pm, .slice ca cn cc, .slice aa an ac] 31))) := bel1 _ _
  have HX : Hid (AtR (w.alloc (.cells #[.int .i64 k, .string f, .string q, .string m, .int .i64 vk, .int .i64 vx, .int .u64 vb, .string vs, .slice la ll lc, .int .i64 ru, .int .i64 nu, .int .i64 wa, .int .i64 pf, .int .u64 (pc : Int), .int .i64 pm, .slice ca cn cc, .slice aa an ac] 31)) w.heap.size k f q m vk vx vb vs la ll lc ru nu wa pf pc pm ca cn cc aa an ac) := AtR.box w k f q m vk vx vb vs la ll lc ru nu wa pf pc pm ca cn cc aa an ac
  replace HX : Hid (World.rangeAt (w.alloc (.cells #[.int .i64 k, .string f, .string q, .string m, .int .i64 vk, .int .i64 vx, .int .u64 vb, .string vs, .slice la ll lc, .int .i64 ru, .int .i64 nu, .int .i64 wa, .int .i64 pf, .int .u64 (pc : Int), .int .i64 pm, .slice ca cn cc, .slice aa an ac] 31)) w.heap.size 0 [.int .i64 k, .string f, .string q, .string m, .int .i64 vk, .int .i64 vx, .int .u64 vb, .string vs, .slice la ll lc, .int .i64 ru, .int .i64 nu, .int .i64 wa, .int .i64 pf, .int .u64 (pc : Int), .int .i64 pm, .slice ca cn cc, .slice aa an ac]) := HX.out.range
  generalize hW0 : w.alloc (.cells #[.int .i64 k, .string f, .string q, .string m, .int .i64 vk, .int .i64 vx, .int .u64 vb, .string vs, .slice la ll lc, .int .i64 ru, .int .i64 nu, .int .i64 wa, .int .i64 pf, .int .u64 (pc : Int), .int .i64 pm, .slice ca cn cc, .slice aa an ac] 31) = W1 at HB HX
  have H0 : Hid (w.alloc (.cells #[.int .i64 k, .string f, .string q, .string m, .int .i64 vk, .int .i64 vx, .int .u64 vb, .string vs, .slice la ll lc, .int .i64 ru, .int .i64 nu, .int .i64 wa, .int .i64 pf, .int .u64 (pc : Int), .int .i64 pm, .slice ca cn cc, .slice aa an ac] 31) = W1) := hW0
  clear hW0
  have hi31 : (Tryd.prog.info? 31).map (·.size) = some ([.int .i64 k, .string f, .string q, .string m, .int .i64 vk, .int .i64 vx, .int .u64 vb, .string vs, .slice la ll lc, .int .i64 ru, .int .i64 nu, .int .i64 wa, .int .i64 pf, .int .u64 (pc : Int), .int .i64 pm, .slice ca cn cc, .slice aa an ac] : List Value).length := rq31
  go_enter Tryd.func3, Tryd.ntmps3
  go_upto_region 1 with fail
  rw [H0.out]
  clear H0
  generalize ([.int .i64 k, .string f, .string q, .string m, .int .i64 vk, .int .i64 vx, .int .u64 vb, .string vs, .slice la ll lc, .int .i64 ru, .int .i64 nu, .int .i64 wa, .int .i64 pf, .int .u64 (pc : Int), .int .i64 pm, .slice ca cn cc, .slice aa an ac] : List Value) = L at HX hi31 HFew H7 H8'
  cases bF
  · clear H8'
    refine wp_region_held_drew (S := (fun w' => w'.rangeAt w.heap.size 0 L)) (by kernel_rfl) HX.out (fun hHeld => ?_)
    change wpAnyH _ _ _ _ _ _ _ _ (World.drew _)
    replace HB : Hid (Below w.heap.size w W1.drew) := HB.out.drew
    refine wpAnyH_take (i := 0) (oi := { dst := some 3, op := Go.Op.load 31 (Go.Operand.tmp 1), type := 31, pos := "law.go:28", after := #[], guard := none }) (v := _) rfl (by kernel_rfl) (by kernel_rfl) (by kernel_rfl) (fun _ _ _ h => h) (yieldsIf_load_mid rfl 31 _ rfl w.heap.size 0 rfl L _ (fun w h => h) Tryd.underlying31 rfl hi31) hHeld ?_
    simp only [Act.put, List.setIfInBounds_toArray, List.set_cons_zero, List.set_cons_succ]
    refine wpAnyH_ready (rs := [1]) (by kernel_rfl) (by simp) ?_
    refine AllReadyH.cons (o := { dst := some 4, op := Go.Op.call { callee := Go.Callee.value (Go.Operand.func 6), args := #[Go.Operand.tmp 3], argTypes := #[31] }, type := 4, pos := "law.go:28", after := #[{ on := 0, ground := Go.Ground.data }], guard := none }) rfl (fun K hK => ?_) AllReadyH.nil
    go_simp
    refine Calls.mono (HFew.out _) ?_
    rintro e w1 ⟨rfl, hb⟩
    skip
    have HRn : Hid (World.rangeAt w1 w.heap.size 0 L) := fun j v hj => cellB (hHeld j v hj) hb
    replace HB : Hid (Below w.heap.size w w1) := bel2 HB.out hb
    refine hK.out _ _ HRn.out (fun hHeld => ?_)
    clear hK K
    clear hb HRn
    refine wpAnyH_take (i := 2) (oi := { dst := some 5, op := Go.Op.unOp Go.UnOp.not 4 (Go.Operand.tmp 4), type := 4, pos := "law.go:28", after := #[{ on := 1, ground := Go.Ground.data }], guard := none }) (v := ?_) rfl (by kernel_rfl) (by kernel_rfl) (by kernel_rfl) (fun _ _ _ h => h) (Or.inl ⟨by rfl, ?_⟩) hHeld ?_
    rotate_left 1
    · (intro w hSw; (try dsimp only at hSw); go_simp <;> with_reducible rfl)
    simp only [Act.put, List.setIfInBounds_toArray, List.set_cons_zero, List.set_cons_succ]
    refine wpAnyH_take (i := 3) (oi := { dst := some 6, op := Go.Op.move (Go.Operand.tmp 5), type := 4, pos := "law.go:28", after := #[{ on := 2, ground := Go.Ground.data }, { on := 1, ground := Go.Ground.chain }], guard := none }) (v := ?_) rfl (by kernel_rfl) (by kernel_rfl) (by kernel_rfl) (fun _ _ _ h => h) (Or.inl ⟨by rfl, ?_⟩) hHeld ?_
    rotate_left 1
    · (intro w hSw; (try dsimp only at hSw); go_simp <;> with_reducible rfl)
    simp only [Act.put, List.setIfInBounds_toArray, List.set_cons_zero, List.set_cons_succ]
    refine wpAnyH_take (i := 4) (oi := { dst := some 7, op := Go.Op.load 31 (Go.Operand.tmp 1), type := 31, pos := "law.go:28", after := #[{ on := 3, ground := Go.Ground.guard }], guard := some (3, false) }) (v := undef) rfl (by kernel_rfl) (by kernel_rfl) (by kernel_rfl) (fun _ _ _ h => h) (Or.inr ⟨by rfl, rfl⟩) hHeld ?_
    simp only [Act.put, List.setIfInBounds_toArray, List.set_cons_zero, List.set_cons_succ]
    refine wpAnyH_take (i := 5) (oi := { dst := some 8, op := Go.Op.call { callee := Go.Callee.value (Go.Operand.func 7), args := #[Go.Operand.tmp 7], argTypes := #[31] }, type := 33, pos := "law.go:28", after := #[{ on := 4, ground := Go.Ground.data }, { on := 3, ground := Go.Ground.chain }, { on := 3, ground := Go.Ground.guard }], guard := some (3, false) }) (v := undef) rfl (by kernel_rfl) (by kernel_rfl) (by kernel_rfl) (fun _ _ _ h => h) (Or.inr ⟨by rfl, rfl⟩) hHeld ?_
    simp only [Act.put, List.setIfInBounds_toArray, List.set_cons_zero, List.set_cons_succ]
    refine wpAnyH_take (i := 6) (oi := { dst := some 9, op := Go.Op.load 31 (Go.Operand.tmp 1), type := 31, pos := "law.go:28", after := #[{ on := 3, ground := Go.Ground.guard }], guard := some (3, false) }) (v := undef) rfl (by kernel_rfl) (by kernel_rfl) (by kernel_rfl) (fun _ _ _ h => h) (Or.inr ⟨by rfl, rfl⟩) hHeld ?_
    simp only [Act.put, List.setIfInBounds_toArray, List.set_cons_zero, List.set_cons_succ]
    refine wpAnyH_take (i := 7) (oi := { dst := some 10, op := Go.Op.call { callee := Go.Callee.value (Go.Operand.func 8), args := #[Go.Operand.tmp 9], argTypes := #[31] }, type := 33, pos := "law.go:28", after := #[{ on := 6, ground := Go.Ground.data }, { on := 5, ground := Go.Ground.chain }, { on := 3, ground := Go.Ground.guard }], guard := some (3, false) }) (v := undef) rfl (by kernel_rfl) (by kernel_rfl) (by kernel_rfl) (fun _ _ _ h => h) (Or.inr ⟨by rfl, rfl⟩) hHeld ?_
    simp only [Act.put, List.setIfInBounds_toArray, List.set_cons_zero, List.set_cons_succ]
    refine wpAnyH_take (i := 8) (oi := { dst := some 11, op := Go.Op.binOp Go.BinOp.eql 33 (Go.Operand.tmp 8) (Go.Operand.tmp 10) 33, type := 4, pos := "law.go:28", after := #[{ on := 5, ground := Go.Ground.data }, { on := 7, ground := Go.Ground.data }, { on := 3, ground := Go.Ground.guard }], guard := some (3, false) }) (v := undef) rfl (by kernel_rfl) (by kernel_rfl) (by kernel_rfl) (fun _ _ _ h => h) (Or.inr ⟨by rfl, rfl⟩) hHeld ?_
    simp only [Act.put, List.setIfInBounds_toArray, List.set_cons_zero, List.set_cons_succ]
    refine wpAnyH_take (i := 9) (oi := { dst := some 12, op := Go.Op.pick (Go.Operand.tmp 6) (Go.Operand.const (Go.Value.bool true)) (Go.Operand.tmp 11), type := 4, pos := "law.go:28", after := #[{ on := 3, ground := Go.Ground.data }, { on := 8, ground := Go.Ground.data }], guard := none }) (v := ?_) rfl (by kernel_rfl) (by kernel_rfl) (by kernel_rfl) (fun _ _ _ h => h) (Or.inl ⟨by rfl, ?_⟩) hHeld ?_
    rotate_left 1
    · (intro w hSw; (try dsimp only at hSw); go_simp <;> with_reducible rfl)
    simp only [Act.put, List.setIfInBounds_toArray, List.set_cons_zero, List.set_cons_succ]
    refine wpAnyH_take (i := 10) (oi := { dst := some 13, op := Go.Op.move (Go.Operand.tmp 12), type := 4, pos := "law.go:28", after := #[{ on := 9, ground := Go.Ground.data }, { on := 7, ground := Go.Ground.chain }], guard := none }) (v := ?_) rfl (by kernel_rfl) (by kernel_rfl) (by kernel_rfl) (fun _ _ _ h => h) (Or.inl ⟨by rfl, ?_⟩) hHeld ?_
    rotate_left 1
    · (intro w hSw; (try dsimp only at hSw); go_simp <;> with_reducible rfl)
    simp only [Act.put, List.setIfInBounds_toArray, List.set_cons_zero, List.set_cons_succ]
    refine wpAnyH_ready (rs := [11]) (by kernel_rfl) (by simp) ?_
    refine AllReadyH.cons (o := { dst := some 14, op := Go.Op.call { callee := Go.Callee.value (Go.Operand.func 9), args := #[], argTypes := #[] }, type := 4, pos := "law.go:28", after := #[{ on := 10, ground := Go.Ground.chain }, { on := 10, ground := Go.Ground.guard }], guard := some (10, true) }) rfl (fun K hK => ?_) AllReadyH.nil
    go_simp
    refine Calls.mono (HAw.out _ HB.out) ?_
    rintro e w4 ⟨rfl, hb⟩
    skip
    have HRn : Hid (World.rangeAt w4 w.heap.size 0 L) := fun j v hj => cellB (hHeld j v hj) hb
    replace HB : Hid (Below w.heap.size w w4) := bel2 HB.out hb
    refine hK.out _ _ HRn.out (fun hHeld => ?_)
    clear hK K
    clear hb HRn
    refine wpAnyH_take (i := 12) (oi := { dst := some 15, op := Go.Op.pick (Go.Operand.tmp 13) (Go.Operand.tmp 14) (Go.Operand.const (Go.Value.bool false)), type := 4, pos := "law.go:28", after := #[{ on := 10, ground := Go.Ground.data }, { on := 11, ground := Go.Ground.data }], guard := none }) (v := ?_) rfl (by kernel_rfl) (by kernel_rfl) (by kernel_rfl) (fun _ _ _ h => h) (Or.inl ⟨by rfl, ?_⟩) hHeld ?_
    rotate_left 1
    · (intro w hSw; (try dsimp only at hSw); go_simp <;> with_reducible rfl)
    simp only [Act.put, List.setIfInBounds_toArray, List.set_cons_zero, List.set_cons_succ]
    refine wpAnyH_take (i := 13) (oi := { dst := some 2, op := Go.Op.assign (Go.Operand.tmp 15), type := 4, pos := "law.go:28", after := #[{ on := 12, ground := Go.Ground.data }, { on := 11, ground := Go.Ground.chain }, { on := 0, ground := Go.Ground.phase }, { on := 1, ground := Go.Ground.phase }, { on := 2, ground := Go.Ground.phase }, { on := 3, ground := Go.Ground.phase }, { on := 4, ground := Go.Ground.phase }, { on := 5, ground := Go.Ground.phase }, { on := 6, ground := Go.Ground.phase }, { on := 7, ground := Go.Ground.phase }, { on := 8, ground := Go.Ground.phase }, { on := 9, ground := Go.Ground.phase }, { on := 10, ground := Go.Ground.phase }, { on := 11, ground := Go.Ground.phase }, { on := 12, ground := Go.Ground.phase }], guard := none }) (v := ?_) rfl (by kernel_rfl) (by kernel_rfl) (by kernel_rfl) (fun _ _ _ h => h) (Or.inl ⟨by rfl, ?_⟩) hHeld ?_
    rotate_left 1
    · (intro w hSw; (try dsimp only at hSw); go_simp <;> with_reducible rfl)
    simp only [Act.put, List.setIfInBounds_toArray, List.set_cons_zero, List.set_cons_succ]
    refine wpAnyH_done (by kernel_rfl) ?_ _
    go_wp2_with fail
    go_ret
    exact ⟨rfl, HB.out⟩
  · have H8 : Hid _ := H8'.out rfl
    clear H8'
    refine wp_region_held_drew (S := (fun w' => w'.rangeAt w.heap.size 0 L)) (by kernel_rfl) HX.out (fun hHeld => ?_)
    change wpAnyH _ _ _ _ _ _ _ _ (World.drew _)
    replace HB : Hid (Below w.heap.size w W1.drew) := HB.out.drew
    refine wpAnyH_take (i := 0) (oi := { dst := some 3, op := Go.Op.load 31 (Go.Operand.tmp 1), type := 31, pos := "law.go:28", after := #[], guard := none }) (v := _) rfl (by kernel_rfl) (by kernel_rfl) (by kernel_rfl) (fun _ _ _ h => h) (yieldsIf_load_mid rfl 31 _ rfl w.heap.size 0 rfl L _ (fun w h => h) Tryd.underlying31 rfl hi31) hHeld ?_
    simp only [Act.put, List.setIfInBounds_toArray, List.set_cons_zero, List.set_cons_succ]
    refine wpAnyH_ready (rs := [1]) (by kernel_rfl) (by simp) ?_
    refine AllReadyH.cons (o := { dst := some 4, op := Go.Op.call { callee := Go.Callee.value (Go.Operand.func 6), args := #[Go.Operand.tmp 3], argTypes := #[31] }, type := 4, pos := "law.go:28", after := #[{ on := 0, ground := Go.Ground.data }], guard := none }) rfl (fun K hK => ?_) AllReadyH.nil
    go_simp
    refine Calls.mono (HFew.out _) ?_
    rintro e w1 ⟨rfl, hb⟩
    skip
    have HRn : Hid (World.rangeAt w1 w.heap.size 0 L) := fun j v hj => cellB (hHeld j v hj) hb
    replace HB : Hid (Below w.heap.size w w1) := bel2 HB.out hb
    refine hK.out _ _ HRn.out (fun hHeld => ?_)
    clear hK K
    clear hb HRn
    refine wpAnyH_take (i := 2) (oi := { dst := some 5, op := Go.Op.unOp Go.UnOp.not 4 (Go.Operand.tmp 4), type := 4, pos := "law.go:28", after := #[{ on := 1, ground := Go.Ground.data }], guard := none }) (v := ?_) rfl (by kernel_rfl) (by kernel_rfl) (by kernel_rfl) (fun _ _ _ h => h) (Or.inl ⟨by rfl, ?_⟩) hHeld ?_
    rotate_left 1
    · (intro w hSw; (try dsimp only at hSw); go_simp <;> with_reducible rfl)
    simp only [Act.put, List.setIfInBounds_toArray, List.set_cons_zero, List.set_cons_succ]
    refine wpAnyH_take (i := 3) (oi := { dst := some 6, op := Go.Op.move (Go.Operand.tmp 5), type := 4, pos := "law.go:28", after := #[{ on := 2, ground := Go.Ground.data }, { on := 1, ground := Go.Ground.chain }], guard := none }) (v := ?_) rfl (by kernel_rfl) (by kernel_rfl) (by kernel_rfl) (fun _ _ _ h => h) (Or.inl ⟨by rfl, ?_⟩) hHeld ?_
    rotate_left 1
    · (intro w hSw; (try dsimp only at hSw); go_simp <;> with_reducible rfl)
    simp only [Act.put, List.setIfInBounds_toArray, List.set_cons_zero, List.set_cons_succ]
    refine wpAnyH_take (i := 4) (oi := { dst := some 7, op := Go.Op.load 31 (Go.Operand.tmp 1), type := 31, pos := "law.go:28", after := #[{ on := 3, ground := Go.Ground.guard }], guard := some (3, false) }) (v := _) rfl (by kernel_rfl) (by kernel_rfl) (by kernel_rfl) (fun _ _ _ h => h) (yieldsIf_load_mid rfl 31 _ rfl w.heap.size 0 rfl L _ (fun w h => h) Tryd.underlying31 rfl hi31) hHeld ?_
    simp only [Act.put, List.setIfInBounds_toArray, List.set_cons_zero, List.set_cons_succ]
    refine wpAnyH_take (i := 6) (oi := { dst := some 9, op := Go.Op.load 31 (Go.Operand.tmp 1), type := 31, pos := "law.go:28", after := #[{ on := 3, ground := Go.Ground.guard }], guard := some (3, false) }) (v := _) rfl (by kernel_rfl) (by kernel_rfl) (by kernel_rfl) (fun _ _ _ h => h) (yieldsIf_load_mid rfl 31 _ rfl w.heap.size 0 rfl L _ (fun w h => h) Tryd.underlying31 rfl hi31) hHeld ?_
    simp only [Act.put, List.setIfInBounds_toArray, List.set_cons_zero, List.set_cons_succ]
    refine wpAnyH_ready (rs := [5]) (by kernel_rfl) (by simp) ?_
    refine AllReadyH.cons (o := { dst := some 8, op := Go.Op.call { callee := Go.Callee.value (Go.Operand.func 7), args := #[Go.Operand.tmp 7], argTypes := #[31] }, type := 33, pos := "law.go:28", after := #[{ on := 4, ground := Go.Ground.data }, { on := 3, ground := Go.Ground.chain }, { on := 3, ground := Go.Ground.guard }], guard := some (3, false) }) rfl (fun K hK => ?_) AllReadyH.nil
    go_simp
    refine Calls.mono (H7.out _ HB.out) ?_
    rintro e w2 ⟨rfl, hb⟩
    skip
    have HRn : Hid (World.rangeAt w2 w.heap.size 0 L) := fun j v hj => cellB (hHeld j v hj) hb
    replace HB : Hid (Below w.heap.size w w2) := bel2 HB.out hb
    refine hK.out _ _ HRn.out (fun hHeld => ?_)
    clear hK K
    clear hb HRn
    refine wpAnyH_ready (rs := [7]) (by kernel_rfl) (by simp) ?_
    refine AllReadyH.cons (o := { dst := some 10, op := Go.Op.call { callee := Go.Callee.value (Go.Operand.func 8), args := #[Go.Operand.tmp 9], argTypes := #[31] }, type := 33, pos := "law.go:28", after := #[{ on := 6, ground := Go.Ground.data }, { on := 5, ground := Go.Ground.chain }, { on := 3, ground := Go.Ground.guard }], guard := some (3, false) }) rfl (fun K hK => ?_) AllReadyH.nil
    go_simp
    refine Calls.mono (H8.out _ HB.out) ?_
    rintro e w3 ⟨rfl, hb⟩
    skip
    have HRn : Hid (World.rangeAt w3 w.heap.size 0 L) := fun j v hj => cellB (hHeld j v hj) hb
    replace HB : Hid (Below w.heap.size w w3) := bel2 HB.out hb
    refine hK.out _ _ HRn.out (fun hHeld => ?_)
    clear hK K
    clear hb HRn
    refine wpAnyH_take (i := 8) (oi := { dst := some 11, op := Go.Op.binOp Go.BinOp.eql 33 (Go.Operand.tmp 8) (Go.Operand.tmp 10) 33, type := 4, pos := "law.go:28", after := #[{ on := 5, ground := Go.Ground.data }, { on := 7, ground := Go.Ground.data }, { on := 3, ground := Go.Ground.guard }], guard := some (3, false) }) (v := ?_) rfl (by kernel_rfl) (by kernel_rfl) (by kernel_rfl) (fun _ _ _ h => h) (Or.inl ⟨by rfl, ?_⟩) hHeld ?_
    rotate_left 1
    · (intro w hSw; (try dsimp only at hSw); go_simp <;> with_reducible rfl)
    simp only [Act.put, List.setIfInBounds_toArray, List.set_cons_zero, List.set_cons_succ]
    refine wpAnyH_take (i := 9) (oi := { dst := some 12, op := Go.Op.pick (Go.Operand.tmp 6) (Go.Operand.const (Go.Value.bool true)) (Go.Operand.tmp 11), type := 4, pos := "law.go:28", after := #[{ on := 3, ground := Go.Ground.data }, { on := 8, ground := Go.Ground.data }], guard := none }) (v := ?_) rfl (by kernel_rfl) (by kernel_rfl) (by kernel_rfl) (fun _ _ _ h => h) (Or.inl ⟨by rfl, ?_⟩) hHeld ?_
    rotate_left 1
    · (intro w hSw; (try dsimp only at hSw); go_simp <;> with_reducible rfl)
    simp only [Act.put, List.setIfInBounds_toArray, List.set_cons_zero, List.set_cons_succ]
    refine wpAnyH_take (i := 10) (oi := { dst := some 13, op := Go.Op.move (Go.Operand.tmp 12), type := 4, pos := "law.go:28", after := #[{ on := 9, ground := Go.Ground.data }, { on := 7, ground := Go.Ground.chain }], guard := none }) (v := ?_) rfl (by kernel_rfl) (by kernel_rfl) (by kernel_rfl) (fun _ _ _ h => h) (Or.inl ⟨by rfl, ?_⟩) hHeld ?_
    rotate_left 1
    · (intro w hSw; (try dsimp only at hSw); go_simp <;> with_reducible rfl)
    simp only [Act.put, List.setIfInBounds_toArray, List.set_cons_zero, List.set_cons_succ]
    refine wpAnyH_ready (rs := [11]) (by kernel_rfl) (by simp) ?_
    refine AllReadyH.cons (o := { dst := some 14, op := Go.Op.call { callee := Go.Callee.value (Go.Operand.func 9), args := #[], argTypes := #[] }, type := 4, pos := "law.go:28", after := #[{ on := 10, ground := Go.Ground.chain }, { on := 10, ground := Go.Ground.guard }], guard := some (10, true) }) rfl (fun K hK => ?_) AllReadyH.nil
    go_simp
    refine Calls.mono (HAw.out _ HB.out) ?_
    rintro e w4 ⟨rfl, hb⟩
    skip
    have HRn : Hid (World.rangeAt w4 w.heap.size 0 L) := fun j v hj => cellB (hHeld j v hj) hb
    replace HB : Hid (Below w.heap.size w w4) := bel2 HB.out hb
    refine hK.out _ _ HRn.out (fun hHeld => ?_)
    clear hK K
    clear hb HRn
    refine wpAnyH_take (i := 12) (oi := { dst := some 15, op := Go.Op.pick (Go.Operand.tmp 13) (Go.Operand.tmp 14) (Go.Operand.const (Go.Value.bool false)), type := 4, pos := "law.go:28", after := #[{ on := 10, ground := Go.Ground.data }, { on := 11, ground := Go.Ground.data }], guard := none }) (v := ?_) rfl (by kernel_rfl) (by kernel_rfl) (by kernel_rfl) (fun _ _ _ h => h) (Or.inl ⟨by rfl, ?_⟩) hHeld ?_
    rotate_left 1
    · (intro w hSw; (try dsimp only at hSw); go_simp <;> with_reducible rfl)
    simp only [Act.put, List.setIfInBounds_toArray, List.set_cons_zero, List.set_cons_succ]
    refine wpAnyH_take (i := 13) (oi := { dst := some 2, op := Go.Op.assign (Go.Operand.tmp 15), type := 4, pos := "law.go:28", after := #[{ on := 12, ground := Go.Ground.data }, { on := 11, ground := Go.Ground.chain }, { on := 0, ground := Go.Ground.phase }, { on := 1, ground := Go.Ground.phase }, { on := 2, ground := Go.Ground.phase }, { on := 3, ground := Go.Ground.phase }, { on := 4, ground := Go.Ground.phase }, { on := 5, ground := Go.Ground.phase }, { on := 6, ground := Go.Ground.phase }, { on := 7, ground := Go.Ground.phase }, { on := 8, ground := Go.Ground.phase }, { on := 9, ground := Go.Ground.phase }, { on := 10, ground := Go.Ground.phase }, { on := 11, ground := Go.Ground.phase }, { on := 12, ground := Go.Ground.phase }], guard := none }) (v := ?_) rfl (by kernel_rfl) (by kernel_rfl) (by kernel_rfl) (fun _ _ _ h => h) (Or.inl ⟨by rfl, ?_⟩) hHeld ?_
    rotate_left 1
    · (intro w hSw; (try dsimp only at hSw); go_simp <;> with_reducible rfl)
    simp only [Act.put, List.setIfInBounds_toArray, List.set_cons_zero, List.set_cons_succ]
    refine wpAnyH_done (by kernel_rfl) ?_ _
    go_wp2_with fail
    go_ret
    exact ⟨rfl, HB.out⟩
theorem lchecks_walk (k : Int) (f q m : ByteArray) (vk vx vb : Int) (vs : ByteArray) (la : Option Addr) (ll lc : Nat) (ru nu wa pf : Int) (pc : Nat) (pm : Int) (ca : Option Addr) (cn cc : Nat) (aa : Option Addr) (an ac : Nat) (n : Nat) (tv : Tv) (l : List Cm) (al : List An) (w : World) (hI : RqI w k f q m vk vx vb vs la ll lc ru nu wa pf pc pm ca cn cc aa an ac n tv l al) (hT : Tb w) : Calls Tryd.prog 3 #[.agg #[.int .i64 k, .string f, .string q, .string m, .int .i64 vk, .int .i64 vx, .int .u64 vb, .string vs, .slice la ll lc, .int .i64 ru, .int .i64 nu, .int .i64 wa, .int .i64 pf, .int .u64 (pc : Int), .int .i64 pm, .slice ca cn cc, .slice aa an ac]] w fun e w' => e = .returned (.bool true) ∧ Below w.heap.size w w' := by
  have K : ∀ W, Below w.heap.size w W → Calls Tryd.prog 7 #[.agg #[.int .i64 k, .string f, .string q, .string m, .int .i64 vk, .int .i64 vx, .int .u64 vb, .string vs, .slice la ll lc, .int .i64 ru, .int .i64 nu, .int .i64 wa, .int .i64 pf, .int .u64 (pc : Int), .int .i64 pm, .slice ca cn cc, .slice aa an ac]] W (LkP (Ok1 n tv k f q m vk ru nu wa pf pc pm cn an) (cn ≤ 12 ∧ an ≤ 8) (Ok3 n l al nu cn) W) := fun W hB => lcheck_calls n tv l al k f q m vk vx vb vs la ll lc ru nu wa pf pc pm ca cn cc aa an ac W hI.pc (hI.v.below hB) (hI.c.below hB) (hI.a.below hB) hI.cn hI.an (hT.below hB)
  have K2 : cn + an ≤ 60 → ∀ W, Below w.heap.size w W → Calls Tryd.prog 8 #[.agg #[.int .i64 k, .string f, .string q, .string m, .int .i64 vk, .int .i64 vx, .int .u64 vb, .string vs, .slice la ll lc, .int .i64 ru, .int .i64 nu, .int .i64 wa, .int .i64 pf, .int .u64 (pc : Int), .int .i64 pm, .slice ca cn cc, .slice aa an ac]] W (LkP (Ok1 n tv k f q m vk ru nu wa pf pc pm cn an) (cn ≤ 12 ∧ an ≤ 8) (Ok3 n l al nu cn) W) := fun hs0 W hB => rlcheck_calls n tv l al k f q m vk vx vb vs la ll lc ru nu wa pf pc pm ca cn cc aa an ac W (hI.v.below hB) (hI.c.below hB) (hI.a.below hB) hI.cn hI.an hs0
  generalize Ok1 n tv k f q m vk ru nu wa pf pc pm cn an = P1 at K K2
  generalize Ok3 n l al nu cn = P3 at K K2
  obtain ⟨r0, H⟩ : ∃ r : Int, ∀ (W : World) e w', LkP P1 (cn ≤ 12 ∧ an ≤ 8) P3 W e w' → e = .returned (.int .i64 r) ∧ Below W.heap.size W w' := by
    by_cases p1 : P1
    · by_cases p2 : cn ≤ 12 ∧ an ≤ 8
      · by_cases p3 : P3
        · exact ⟨0, fun W e w' ⟨r, he, _, _, h3, _, hb⟩ => ⟨by rw [he, h3 p1 p2 p3], hb⟩⟩
        · exact ⟨1, fun W e w' ⟨r, he, _, _, _, h4, hb⟩ => ⟨by rw [he, h4 p1 p2 p3], hb⟩⟩
      · exact ⟨5, fun W e w' ⟨r, he, _, h2, _, _, hb⟩ => ⟨by rw [he, h2 p1 p2], hb⟩⟩
    · exact ⟨1, fun W e w' ⟨r, he, h1, _, _, _, hb⟩ => ⟨by rw [he, h1 p1], hb⟩⟩
  exact lchecks_gen (decide (cn + an ≤ 60)) r0 k f q m vk vx vb vs la ll lc ru nu wa pf pc pm ca cn cc aa an ac w (fun W => few_calls k f q m vk vx vb vs la ll lc ru nu wa pf pc pm ca cn cc aa an ac W) (fun W hB => (K W hB).mono (H W)) (fun hb W hB => (K2 (of_decide_eq_true hb) W hB).mono (H W)) (fun W hB => awake_calls W (hT.below hB))
end Go.Proofs.YtddigndamimmpaaDoor
