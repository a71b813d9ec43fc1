/- The contracts of slices.IndexFunc over waits, answers, asks. -/
import Derived.Test.YtocjgcjechhehaaH
namespace Go.Proofs.Ytocjgcjechhehaa
open Go.ChangeAt Go.ChangeShapes Go.Deep Go.RowKit Go.WideShapes
/-- Rows of k cells that lie one behind the other, each as Rp says. -/
def LsR {α : Type} (k : Nat) (Rp : Array Value → α → Prop) (w : World) (a : Option Addr) (ds : List α) : Prop := ∀ (i : Nat) d, ds[i]? = some d → ∃ B o r, a = some ⟨B, o, none⟩ ∧ r.size = k ∧ Lies w B (o + i * k) r ∧ Rp r d
theorem LsR.below {α : Type} {k : Nat} {Rp : Array Value → α → Prop} {w w' : World} {a : Option Addr} {ds : List α} (h : LsR k Rp w a ds) (hb : Below w.heap.size w w') : LsR k Rp w' a ds := fun i d hd => by
  obtain ⟨B, o, r, h1, h2, h3, h4⟩ := h i d hd
  exact ⟨B, o, r, h1, h2, h3.below hb, h4⟩
theorem LsR.map {α : Type} {k : Nat} {Rp Rq : Array Value → α → Prop} {w : World} {a : Option Addr} {ds : List α} (hR : ∀ r d, Rp r d → Rq r d) (h : LsR k Rp w a ds) : LsR k Rq w a ds := fun i d hd => by
  obtain ⟨B, o, r, h1, h2, h3, h4⟩ := h i d hd
  exact ⟨B, o, r, h1, h2, h3, hR r d h4⟩
theorem LsW.rows {w : World} {n : Nat} {a : Option Addr} {ws : List Wt} (h : LsW w n a ws) : LsR 19 (IsW (Is w n)) w a ws := fun i d hd => by
  obtain ⟨B, o, r, h1, h3, h4⟩ := h i d hd
  exact ⟨B, o, r, h1, h4.size, h3, h4⟩
theorem find_first {α : Type} {P : α → Bool} : ∀ {l : List α} {j : Nat} {d : α}, l[j]? = some d → P d = true → (∀ q d, q < j → l[q]? = some d → P d = false) → l.find? P = some d
  | [], j, d, h, _, _ => by simp at h
  | x :: l, 0, d, h, hp, _ => by
    simp at h
    subst h
    simp [hp]
  | x :: l, j + 1, d, h, hp, hf => by
    have h0 : P x = false := hf 0 x (by omega) rfl
    rw [List.find?_cons, h0]
    exact find_first (l := l) (j := j) (by simpa using h) hp fun q d hq hd => hf (q + 1) d (by omega) (by simpa using hd)
/-- What IndexFunc tells: where the first one is. -/
def IxP {α : Type} (P : α → Bool) (ds : List α) (w : World) (e : Ending) (w' : World) : Prop :=
  ((∃ (j : Nat) (d : α), e = .returned (.int .i64 (j : Int)) ∧ ds[j]? = some d ∧ ds.find? P = some d) ∨ (e = .returned (.int .i64 (-1)) ∧ ds.find? P = none)) ∧ Below w.heap.size w w'
set_option maxHeartbeats 2000000 in
set_option maxRecDepth 100000 in
theorem ix31_calls {α : Type} (Rp : Array Value → α → Prop) (P : α → Bool) (g : Nat) (ds : List α) (a : Option Addr) (n c : Nat) (hn : ds.length = n) (hs : n ≤ 1000) (w : World) (h : LsR 19 Rp w a ds)
    (hp : ∀ W, Below w.heap.size w W → ∀ (r : Array Value) (d : α), r.size = 19 → Rp r d → Calls Try.prog 32 #[.agg r, .pointer (some ⟨g, 0, none⟩)] W fun e w' => e = .returned (.bool (P d)) ∧ Below W.heap.size W w') :
    Calls Try.prog 31 #[.slice a n c, .func (.func 32) #[] #[.pointer (some ⟨g, 0, none⟩)]] w (IxP P ds w) := by
  have HI : Hid (LsR 19 Rp w a ds) := h
  have HN : Hid (ds.length = n) := hn
  have HS : Hid (n ≤ 1000) := hs
  have HP : Hid (∀ W, Below w.heap.size w W → _) := hp
  have HQ1 : Hid (∀ (j : Nat) (d : α) w', ds[j]? = some d → P d = true → (∀ i d, i < j → ds[i]? = some d → P d = false) → Below w.heap.size w w' → IxP P ds w (.returned (.int .i64 (j : Int))) w') := fun j z w' h1 h2 h3 h4 => ⟨.inl ⟨j, z, rfl, h1, find_first h1 h2 h3⟩, h4⟩
  have HQ2 : Hid (∀ w', (∀ d ∈ ds, P d = false) → Below w.heap.size w w' → IxP P ds w (.returned (.int .i64 (-1))) w') := fun w' h1 h4 => ⟨.inr ⟨rfl, List.find?_eq_none.2 fun d hd => by simp [h1 d hd]⟩, h4⟩
  generalize IxP P ds w = Q at HQ1 HQ2 ⊢
  clear h hn hs hp
  go_enter Try.func31, Try.ntmps31
  go_wp2_with fail
  go_loopw [5, 8] (fun _ i wr => ∃ j : Nat, j ≤ n ∧ i = .int .i64 (j : Int) ∧ Hid (∀ i d, i < j → ds[i]? = some d → P d = false) ∧ Hid (Below w.heap.size w wr)) (fun _ i _ => n - (intOf i).toNat)
  case atStart => exact ⟨0, Nat.zero_le _, rfl, fun q z hq => absurd hq (Nat.not_lt_zero _), Below.refl _ _⟩
  case round =>
    obtain ⟨j, hj, rfl, HF, HB⟩ := hrel
    by_cases hlt : j < n
    · have hjl : (j : Int) < (n : Int) := by omega
      obtain ⟨d, hd⟩ : ∃ d, ds[j]? = some d := ⟨_, List.getElem?_eq_getElem (by have := HN.out; omega)⟩
      obtain ⟨B, o, r, rfl, hsz, hl, hr⟩ := HI.out j d hd
      have hrng := lies_range (hl.below HB.out)
      have hi : (Try.prog.info? 29).map (·.size) = some r.toList.length := by rw [Array.length_toList]; exact info29s r hsz
      have HZ : Hid (ds[j]? = some d) := hd
      have HC : Hid (Calls Try.prog 32 #[.agg r, .pointer (some ⟨g, 0, none⟩)] wr fun e w' => e = .returned (.bool (P d)) ∧ Below wr.heap.size wr w') := HP.out wr HB.out r d hsz hr
      obtain ⟨pz, hpz⟩ : ∃ pz, pz = P d := ⟨_, rfl⟩
      rw [← hpz] at HC
      have HZP : Hid (pz = P d) := hpz
      have HW : Hid (wrap64 ((j : Int) + 1) = ((j + 1 : Nat) : Int)) := wr1 hlt (by have := HS.out; omega)
      clear hd hpz hl hsz hr
      go_wp2_with (refine wpList_load_mid rfl 29 _ rfl B (o + j * 19) rfl r.toList _ hrng Try.underlying29 rfl hi ?_)
      refine HC.out.mono ?_
      rintro e w1 ⟨rfl, hb⟩
      have HB1 : Hid (Below w.heap.size w w1) := bel2 HB.out hb
      clear hb hrng hi
      cases pz with
      | true =>
        go_wp2_with fail
        exact HQ1.out j d _ HZ.out HZP.out.symm HF.out HB1.out
      | false =>
        have HF2 : Hid (∀ i d, i < j + 1 → ds[i]? = some d → P d = false) := fun i z' hq hz' => by
          by_cases e : i = j
          · subst e; rw [HZ.out] at hz'; injection hz' with hz'; rw [← hz']; exact HZP.out.symm
          · exact HF.out i z' (by omega) hz'
        go_wp2_with fail
        exact ⟨⟨j + 1, hlt, by first | rw [HW.out] | exact congrArg _ (Int.natCast_succ j).symm, HF2, HB1⟩, by first | exact meas hlt HW.out | exact meas hlt (Int.natCast_succ j).symm⟩
    · obtain rfl : j = n := by omega
      go_wp2_with fail
      refine HQ2.out _ (fun z hz => ?_) HB.out
      obtain ⟨i, hi⟩ := List.getElem?_of_mem hz
      exact HF.out i z (by have := (List.getElem?_eq_some_iff.1 hi).1; have := HN.out; omega) hi
theorem info66s (us : Array Value) (h : us.size = 6) : (Try.prog.info? 66).map (·.size) = some us.size := by
  rw [h]
  kernel_rfl
set_option maxHeartbeats 2000000 in
set_option maxRecDepth 100000 in
theorem ix45_calls {α : Type} (Rp : Array Value → α → Prop) (P : α → Bool) (g : Nat) (ds : List α) (a : Option Addr) (n c : Nat) (hn : ds.length = n) (hs : n ≤ 1000) (w : World) (h : LsR 6 Rp w a ds)
    (hp : ∀ W, Below w.heap.size w W → ∀ (r : Array Value) (d : α), r.size = 6 → Rp r d → Calls Try.prog 46 #[.agg r, .pointer (some ⟨g, 0, none⟩)] W fun e w' => e = .returned (.bool (P d)) ∧ Below W.heap.size W w') :
    Calls Try.prog 45 #[.slice a n c, .func (.func 46) #[] #[.pointer (some ⟨g, 0, none⟩)]] w (IxP P ds w) := by
  have HI : Hid (LsR 6 Rp w a ds) := h
  have HN : Hid (ds.length = n) := hn
  have HS : Hid (n ≤ 1000) := hs
  have HP : Hid (∀ W, Below w.heap.size w W → _) := hp
  have HQ1 : Hid (∀ (j : Nat) (d : α) w', ds[j]? = some d → P d = true → (∀ i d, i < j → ds[i]? = some d → P d = false) → Below w.heap.size w w' → IxP P ds w (.returned (.int .i64 (j : Int))) w') := fun j z w' h1 h2 h3 h4 => ⟨.inl ⟨j, z, rfl, h1, find_first h1 h2 h3⟩, h4⟩
  have HQ2 : Hid (∀ w', (∀ d ∈ ds, P d = false) → Below w.heap.size w w' → IxP P ds w (.returned (.int .i64 (-1))) w') := fun w' h1 h4 => ⟨.inr ⟨rfl, List.find?_eq_none.2 fun d hd => by simp [h1 d hd]⟩, h4⟩
  generalize IxP P ds w = Q at HQ1 HQ2 ⊢
  clear h hn hs hp
  go_enter Try.func45, Try.ntmps45
  go_wp2_with fail
  go_loopw [5, 8] (fun _ i wr => ∃ j : Nat, j ≤ n ∧ i = .int .i64 (j : Int) ∧ Hid (∀ i d, i < j → ds[i]? = some d → P d = false) ∧ Hid (Below w.heap.size w wr)) (fun _ i _ => n - (intOf i).toNat)
  case atStart => exact ⟨0, Nat.zero_le _, rfl, fun q z hq => absurd hq (Nat.not_lt_zero _), Below.refl _ _⟩
  case round =>
    obtain ⟨j, hj, rfl, HF, HB⟩ := hrel
    by_cases hlt : j < n
    · have hjl : (j : Int) < (n : Int) := by omega
      obtain ⟨d, hd⟩ : ∃ d, ds[j]? = some d := ⟨_, List.getElem?_eq_getElem (by have := HN.out; omega)⟩
      obtain ⟨B, o, r, rfl, hsz, hl, hr⟩ := HI.out j d hd
      have hrng := lies_range (hl.below HB.out)
      have hi : (Try.prog.info? 66).map (·.size) = some r.toList.length := by rw [Array.length_toList]; exact info66s r hsz
      have HZ : Hid (ds[j]? = some d) := hd
      have HC : Hid (Calls Try.prog 46 #[.agg r, .pointer (some ⟨g, 0, none⟩)] wr fun e w' => e = .returned (.bool (P d)) ∧ Below wr.heap.size wr w') := HP.out wr HB.out r d hsz hr
      obtain ⟨pz, hpz⟩ : ∃ pz, pz = P d := ⟨_, rfl⟩
      rw [← hpz] at HC
      have HZP : Hid (pz = P d) := hpz
      have HW : Hid (wrap64 ((j : Int) + 1) = ((j + 1 : Nat) : Int)) := wr1 hlt (by have := HS.out; omega)
      clear hd hpz hl hsz hr
      go_wp2_with (refine wpList_load_mid rfl 66 _ rfl B (o + j * 6) rfl r.toList _ hrng Try.underlying66 rfl hi ?_)
      refine HC.out.mono ?_
      rintro e w1 ⟨rfl, hb⟩
      have HB1 : Hid (Below w.heap.size w w1) := bel2 HB.out hb
      clear hb hrng hi
      cases pz with
      | true =>
        go_wp2_with fail
        exact HQ1.out j d _ HZ.out HZP.out.symm HF.out HB1.out
      | false =>
        have HF2 : Hid (∀ i d, i < j + 1 → ds[i]? = some d → P d = false) := fun i z' hq hz' => by
          by_cases e : i = j
          · subst e; rw [HZ.out] at hz'; injection hz' with hz'; rw [← hz']; exact HZP.out.symm
          · exact HF.out i z' (by omega) hz'
        go_wp2_with fail
        exact ⟨⟨j + 1, hlt, by first | rw [HW.out] | exact congrArg _ (Int.natCast_succ j).symm, HF2, HB1⟩, by first | exact meas hlt HW.out | exact meas hlt (Int.natCast_succ j).symm⟩
    · obtain rfl : j = n := by omega
      go_wp2_with fail
      refine HQ2.out _ (fun z hz => ?_) HB.out
      obtain ⟨i, hi⟩ := List.getElem?_of_mem hz
      exact HF.out i z (by have := (List.getElem?_eq_some_iff.1 hi).1; have := HN.out; omega) hi
theorem info58s (us : Array Value) (h : us.size = 7) : (Try.prog.info? 58).map (·.size) = some us.size := by
  rw [h]
  kernel_rfl
set_option maxHeartbeats 2000000 in
set_option maxRecDepth 100000 in
theorem ix50_calls {α : Type} (Rp : Array Value → α → Prop) (P : α → Bool) (g : Nat) (ds : List α) (a : Option Addr) (n c : Nat) (hn : ds.length = n) (hs : n ≤ 1000) (w : World) (h : LsR 7 Rp w a ds)
    (hp : ∀ W, Below w.heap.size w W → ∀ (r : Array Value) (d : α), r.size = 7 → Rp r d → Calls Try.prog 51 #[.agg r, .pointer (some ⟨g, 0, none⟩)] W fun e w' => e = .returned (.bool (P d)) ∧ Below W.heap.size W w') :
    Calls Try.prog 50 #[.slice a n c, .func (.func 51) #[] #[.pointer (some ⟨g, 0, none⟩)]] w (IxP P ds w) := by
  have HI : Hid (LsR 7 Rp w a ds) := h
  have HN : Hid (ds.length = n) := hn
  have HS : Hid (n ≤ 1000) := hs
  have HP : Hid (∀ W, Below w.heap.size w W → _) := hp
  have HQ1 : Hid (∀ (j : Nat) (d : α) w', ds[j]? = some d → P d = true → (∀ i d, i < j → ds[i]? = some d → P d = false) → Below w.heap.size w w' → IxP P ds w (.returned (.int .i64 (j : Int))) w') := fun j z w' h1 h2 h3 h4 => ⟨.inl ⟨j, z, rfl, h1, find_first h1 h2 h3⟩, h4⟩
  have HQ2 : Hid (∀ w', (∀ d ∈ ds, P d = false) → Below w.heap.size w w' → IxP P ds w (.returned (.int .i64 (-1))) w') := fun w' h1 h4 => ⟨.inr ⟨rfl, List.find?_eq_none.2 fun d hd => by simp [h1 d hd]⟩, h4⟩
  generalize IxP P ds w = Q at HQ1 HQ2 ⊢
  clear h hn hs hp
  go_enter Try.func50, Try.ntmps50
  go_wp2_with fail
  go_loopw [5, 8] (fun _ i wr => ∃ j : Nat, j ≤ n ∧ i = .int .i64 (j : Int) ∧ Hid (∀ i d, i < j → ds[i]? = some d → P d = false) ∧ Hid (Below w.heap.size w wr)) (fun _ i _ => n - (intOf i).toNat)
  case atStart => exact ⟨0, Nat.zero_le _, rfl, fun q z hq => absurd hq (Nat.not_lt_zero _), Below.refl _ _⟩
  case round =>
    obtain ⟨j, hj, rfl, HF, HB⟩ := hrel
    by_cases hlt : j < n
    · have hjl : (j : Int) < (n : Int) := by omega
      obtain ⟨d, hd⟩ : ∃ d, ds[j]? = some d := ⟨_, List.getElem?_eq_getElem (by have := HN.out; omega)⟩
      obtain ⟨B, o, r, rfl, hsz, hl, hr⟩ := HI.out j d hd
      have hrng := lies_range (hl.below HB.out)
      have hi : (Try.prog.info? 58).map (·.size) = some r.toList.length := by rw [Array.length_toList]; exact info58s r hsz
      have HZ : Hid (ds[j]? = some d) := hd
      have HC : Hid (Calls Try.prog 51 #[.agg r, .pointer (some ⟨g, 0, none⟩)] wr fun e w' => e = .returned (.bool (P d)) ∧ Below wr.heap.size wr w') := HP.out wr HB.out r d hsz hr
      obtain ⟨pz, hpz⟩ : ∃ pz, pz = P d := ⟨_, rfl⟩
      rw [← hpz] at HC
      have HZP : Hid (pz = P d) := hpz
      have HW : Hid (wrap64 ((j : Int) + 1) = ((j + 1 : Nat) : Int)) := wr1 hlt (by have := HS.out; omega)
      clear hd hpz hl hsz hr
      go_wp2_with (refine wpList_load_mid rfl 58 _ rfl B (o + j * 7) rfl r.toList _ hrng Try.underlying58 rfl hi ?_)
      refine HC.out.mono ?_
      rintro e w1 ⟨rfl, hb⟩
      have HB1 : Hid (Below w.heap.size w w1) := bel2 HB.out hb
      clear hb hrng hi
      cases pz with
      | true =>
        go_wp2_with fail
        exact HQ1.out j d _ HZ.out HZP.out.symm HF.out HB1.out
      | false =>
        have HF2 : Hid (∀ i d, i < j + 1 → ds[i]? = some d → P d = false) := fun i z' hq hz' => by
          by_cases e : i = j
          · subst e; rw [HZ.out] at hz'; injection hz' with hz'; rw [← hz']; exact HZP.out.symm
          · exact HF.out i z' (by omega) hz'
        go_wp2_with fail
        exact ⟨⟨j + 1, hlt, by first | rw [HW.out] | exact congrArg _ (Int.natCast_succ j).symm, HF2, HB1⟩, by first | exact meas hlt HW.out | exact meas hlt (Int.natCast_succ j).symm⟩
    · obtain rfl : j = n := by omega
      go_wp2_with fail
      refine HQ2.out _ (fun z hz => ?_) HB.out
      obtain ⟨i, hi⟩ := List.getElem?_of_mem hz
      exact HF.out i z (by have := (List.getElem?_eq_some_iff.1 hi).1; have := HN.out; omega) hi
end Go.Proofs.Ytocjgcjechhehaa
