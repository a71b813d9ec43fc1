/- The contracts of IndexFunc over timers and over updates, of timerAt, updateAt, waitingAt. -/
import Derived.Test.YtcdhlklmnnmpoaaGreatSQ
import Derived.Deep.MidRow
namespace Go.Proofs.YtcdhlklmnnmpoaaGreat
open Go.ChangeShapes Go.WideShapes Go.ChangeAt Go.RowKit
/-- Texts held against each other. -/
def eqS (a b : ByteArray) : Bool := a.toList == b.toList
def gtS (a b : ByteArray) : Bool := !Op.bytesLess a.toList b.toList && !(a.toList == b.toList)
/-- Where the first one of a list is of which P says true; -1: none. -/
def ixI {α : Type} (P : α → Bool) : List α → Int
  | [] => -1
  | x :: l => if P x then 0 else if ixI P l < 0 then -1 else ixI P l + 1
theorem ixI_none {α : Type} {P : α → Bool} : ∀ {l : List α}, (∀ d ∈ l, P d = false) → ixI P l = -1
  | [], _ => rfl
  | x :: l, h => by
    have h1 := h x List.mem_cons_self
    have h2 := ixI_none (l := l) fun d hd => h d (List.mem_cons_of_mem _ hd)
    simp [ixI, h1, h2]
theorem ixI_some {α : Type} {P : α → Bool} : ∀ {l : List α} {j : Nat} {d : α}, l[j]? = some d → P d = true → (∀ q d, q < j → l[q]? = some d → P d = false) → ixI P l = (j : Int)
  | [], j, d, h, _, _ => by simp at h
  | x :: l, 0, d, h, hd, _ => by
    simp only [List.getElem?_cons_zero, Option.some.injEq] at h
    subst h
    simp [ixI, hd]
  | x :: l, j + 1, d, h, hd, hq => by
    have h1 := hq 0 x (Nat.succ_pos _) rfl
    have h2 := ixI_some (l := l) (j := j) (d := d) h hd fun q d hlt hl => hq (q + 1) d (Nat.succ_lt_succ hlt) hl
    have h3 : ¬ ((j : Int) < 0) := by omega
    simp [ixI, h1, h2, h3]
theorem ixI_cases {α : Type} (P : α → Bool) : ∀ (l : List α), (∃ (j : Nat) (d : α), ixI P l = (j : Int) ∧ l[j]? = some d ∧ P d = true ∧ ∀ q d, q < j → l[q]? = some d → P d = false) ∨ (ixI P l = -1 ∧ ∀ d ∈ l, P d = false)
  | [] => .inr ⟨rfl, fun d h => by simp at h⟩
  | x :: l => by
    by_cases hx : P x = true
    · exact .inl ⟨0, x, by simp [ixI, hx], rfl, hx, fun q d h => absurd h (Nat.not_lt_zero _)⟩
    · have hx : P x = false := by simpa using hx
      rcases ixI_cases P l with ⟨j, d, h1, h2, h3, h4⟩ | ⟨h1, h2⟩
      · have h5 : ¬ ((j : Int) < 0) := by omega
        refine .inl ⟨j + 1, d, by simp [ixI, hx, h1, h5], h2, h3, fun q d hq hd => ?_⟩
        cases q with
        | zero => simp only [List.getElem?_cons_zero, Option.some.injEq] at hd; rw [← hd]; exact hx
        | succ q => exact h4 q d (by omega) hd
      · refine .inr ⟨by simp [ixI, hx, h1], fun d hd => ?_⟩
        rcases List.mem_cons.1 hd with rfl | hd
        · exact hx
        · exact h2 d hd
/-- What IndexFunc answers. -/
def IxP (j : Int) (w : World) (e : Ending) (w' : World) : Prop := e = .returned (.int .i64 j) ∧ Below w.heap.size w w'
theorem cell_below {w w' : World} {a : Addr} {c : Value} (h : w.cell? a = some c) (hb : Below w.heap.size w w') : w'.cell? a = some c := (hb.cell (World.block_lt_of_cell? w _ h)).trans h
set_option maxHeartbeats 1000000 in
theorem teq_calls (d : Tm) (q : ByteArray) (g : Nat) (w : World) (hg : w.cell? ⟨g, 0, none⟩ = some (.string q)) :
    Calls Tryz.prog 109 #[.agg #[.string d.s, .int .i64 d.d], .pointer (some ⟨g, 0, none⟩)] w fun e w' => e = .returned (.bool (eqS d.s q)) ∧ Below w.heap.size w w' := by
  have hb := bel1 w (.cells #[.string d.s, .int .i64 d.d] 120)
  have hg1 := cell_below hg hb
  have HB : Hid (Below w.heap.size w _) := hb
  clear hb hg
  go_enter Tryz.func109, Tryz.ntmps109
  go_wp2_with fail
  go_ret
  exact ⟨by first | rfl | simp, HB.out⟩
set_option maxHeartbeats 2000000 in
set_option maxRecDepth 100000 in
theorem ix117_calls (q : ByteArray) (ds : List Tm) (a : Option Addr) (n c : Nat) (hn : ds.length = n) (hs : n ≤ 1000) (g : Nat) (w : World) (h : RowS (fun _ => True) w a 2 (ds.map Tm.cells)) (hg : w.cell? ⟨g, 0, none⟩ = some (.string q)) :
    Calls Tryz.prog 108 #[.slice a n c, .func (.func 109) #[] #[.pointer (some ⟨g, 0, none⟩)]] w (IxP (ixI (fun d => eqS d.s q) ds) w) := by
  have HI : Hid (RowS (fun _ => True) w a 2 (ds.map Tm.cells)) := h
  have HN : Hid (ds.length = n) := hn
  have HS : Hid (n ≤ 1000) := hs
  have HP : Hid (∀ W, Below w.heap.size w W → ∀ (d : Tm), Calls Tryz.prog 109 #[.agg #[.string d.s, .int .i64 d.d], .pointer (some ⟨g, 0, none⟩)] W fun e w' => e = .returned (.bool (eqS d.s q)) ∧ Below W.heap.size W w') := fun W hB d => teq_calls d q g W (cell_below hg hB)
  have HQ1 : Hid (∀ (j : Nat) (d : Tm) w', ds[j]? = some d → eqS d.s q = true → (∀ i d, i < j → ds[i]? = some d → eqS d.s q = false) → Below w.heap.size w w' → IxP (ixI (fun d => eqS d.s q) ds) w (.returned (.int .i64 (j : Int))) w') := fun j z w' h1 h2 h3 h4 => ⟨by rw [ixI_some h1 h2 h3], h4⟩
  have HQ2 : Hid (∀ w', (∀ d ∈ ds, eqS d.s q = false) → Below w.heap.size w w' → IxP (ixI (fun d => eqS d.s q) ds) w (.returned (.int .i64 (-1))) w') := fun w' h1 h4 => ⟨by rw [ixI_none h1], h4⟩
  generalize IxP (ixI (fun d => eqS d.s q) ds) w = Q at HQ1 HQ2 ⊢
  clear h hn hs hg
  go_enter Tryz.func108, Tryz.ntmps108
  go_wp2_with fail
  go_loopw [5, 8] (fun _ i wr => ∃ j : Nat, j ≤ n ∧ i = .int .i64 (j : Int) ∧ Hid (∀ i d, i < j → ds[i]? = some d → eqS d.s q = false) ∧ Hid (Below w.heap.size w wr)) (fun _ i _ => n - (intOf i).toNat)
  case atStart => exact ⟨0, Nat.zero_le _, rfl, fun q z hq => absurd hq (Nat.not_lt_zero _), Below.refl _ _⟩
  case round =>
    obtain ⟨j, hj, rfl, HF, HB⟩ := hrel
    by_cases hlt : j < n
    · have hjl : (j : Int) < (n : Int) := by omega
      have hj9 : (j : Int) < 1000 := by have := HS.out; omega
      obtain ⟨d, hd⟩ : ∃ d, ds[j]? = some d := ⟨_, List.getElem?_eq_getElem (by have := HN.out; omega)⟩
      obtain ⟨_, _, B, o, rfl, _, hl⟩ := HI.out j d.cells (by rw [List.getElem?_map, hd]; rfl)
      have hl2 := hl.below HB.out
      have e0 : wr.cell? ⟨B, o + j * 2, none⟩ = some (.string d.s) := hl2 0 _ rfl
      have e1 : wr.cell? ⟨B, o + j * 2 + 1, none⟩ = some (.int .i64 d.d) := hl2 1 _ rfl
      have HZ : Hid (ds[j]? = some d) := hd
      have HC : Hid (Calls Tryz.prog 109 #[.agg #[.string d.s, .int .i64 d.d], .pointer (some ⟨g, 0, none⟩)] wr fun e w' => e = .returned (.bool (eqS d.s q)) ∧ Below wr.heap.size wr w') := HP.out wr HB.out d
      obtain ⟨pz, hpz⟩ : ∃ pz, pz = eqS d.s q := ⟨_, rfl⟩
      rw [← hpz] at HC
      have HZP : Hid (pz = eqS d.s q) := hpz
      have HW : Hid (wrap64 ((j : Int) + 1) = ((j + 1 : Nat) : Int)) := wr1 hlt (by have := HS.out; omega)
      clear hd hpz hl hl2
      go_wp2_with fail
      refine HC.out.mono ?_
      rintro e w1 ⟨rfl, hb⟩
      have HB1 : Hid (Below w.heap.size w w1) := bel2 HB.out hb
      clear hb e0 e1
      cases pz with
      | true =>
        go_wp2_with fail
        exact HQ1.out j d _ HZ.out HZP.out.symm HF.out HB1.out
      | false =>
        have HF2 : Hid (∀ i d, i < j + 1 → ds[i]? = some d → eqS d.s q = false) := fun i z' hq hz' => by
          by_cases e : i = j
          · subst e; rw [HZ.out] at hz'; injection hz' with hz'; rw [← hz']; exact HZP.out.symm
          · exact HF.out i z' (by omega) hz'
        go_wp2_with fail
        exact ⟨⟨j + 1, hlt, by first | rw [HW.out] | exact congrArg _ (Int.natCast_succ j).symm, HF2, HB1⟩, by first | exact meas hlt HW.out | exact meas hlt (Int.natCast_succ j).symm⟩
    · obtain rfl : j = n := by omega
      go_wp2_with fail
      refine HQ2.out _ (fun z hz => ?_) HB.out
      obtain ⟨i, hi⟩ := List.getElem?_of_mem hz
      exact HF.out i z (by have := (List.getElem?_eq_some_iff.1 hi).1; have := HN.out; omega) hi
set_option maxHeartbeats 1000000 in
theorem tgt_calls (d : Tm) (q : ByteArray) (g : Nat) (w : World) (hg : w.cell? ⟨g, 4, none⟩ = some (.string q)) :
    Calls Tryz.prog 100 #[.agg #[.string d.s, .int .i64 d.d], .pointer (some ⟨g, 0, none⟩)] w fun e w' => e = .returned (.bool (gtS d.s q)) ∧ Below w.heap.size w w' := by
  have hb := bel1 w (.cells #[.string d.s, .int .i64 d.d] 120)
  have hg1 := cell_below hg hb
  have HB : Hid (Below w.heap.size w _) := hb
  clear hb hg
  go_enter Tryz.func100, Tryz.ntmps100
  go_wp2_with fail
  go_ret
  exact ⟨by first | rfl | simp, HB.out⟩
set_option maxHeartbeats 2000000 in
set_option maxRecDepth 100000 in
theorem ix101_calls (q : ByteArray) (ds : List Tm) (a : Option Addr) (n c : Nat) (hn : ds.length = n) (hs : n ≤ 1000) (g : Nat) (w : World) (h : RowS (fun _ => True) w a 2 (ds.map Tm.cells)) (hg : w.cell? ⟨g, 4, none⟩ = some (.string q)) :
    Calls Tryz.prog 108 #[.slice a n c, .func (.func 100) #[] #[.pointer (some ⟨g, 0, none⟩)]] w (IxP (ixI (fun d => gtS d.s q) ds) w) := by
  have HI : Hid (RowS (fun _ => True) w a 2 (ds.map Tm.cells)) := h
  have HN : Hid (ds.length = n) := hn
  have HS : Hid (n ≤ 1000) := hs
  have HP : Hid (∀ W, Below w.heap.size w W → ∀ (d : Tm), Calls Tryz.prog 100 #[.agg #[.string d.s, .int .i64 d.d], .pointer (some ⟨g, 0, none⟩)] W fun e w' => e = .returned (.bool (gtS d.s q)) ∧ Below W.heap.size W w') := fun W hB d => tgt_calls d q g W (cell_below hg hB)
  have HQ1 : Hid (∀ (j : Nat) (d : Tm) w', ds[j]? = some d → gtS d.s q = true → (∀ i d, i < j → ds[i]? = some d → gtS d.s q = false) → Below w.heap.size w w' → IxP (ixI (fun d => gtS d.s q) ds) w (.returned (.int .i64 (j : Int))) w') := fun j z w' h1 h2 h3 h4 => ⟨by rw [ixI_some h1 h2 h3], h4⟩
  have HQ2 : Hid (∀ w', (∀ d ∈ ds, gtS d.s q = false) → Below w.heap.size w w' → IxP (ixI (fun d => gtS d.s q) ds) w (.returned (.int .i64 (-1))) w') := fun w' h1 h4 => ⟨by rw [ixI_none h1], h4⟩
  generalize IxP (ixI (fun d => gtS d.s q) ds) w = Q at HQ1 HQ2 ⊢
  clear h hn hs hg
  go_enter Tryz.func108, Tryz.ntmps108
  go_wp2_with fail
  go_loopw [5, 8] (fun _ i wr => ∃ j : Nat, j ≤ n ∧ i = .int .i64 (j : Int) ∧ Hid (∀ i d, i < j → ds[i]? = some d → gtS d.s q = false) ∧ Hid (Below w.heap.size w wr)) (fun _ i _ => n - (intOf i).toNat)
  case atStart => exact ⟨0, Nat.zero_le _, rfl, fun q z hq => absurd hq (Nat.not_lt_zero _), Below.refl _ _⟩
  case round =>
    obtain ⟨j, hj, rfl, HF, HB⟩ := hrel
    by_cases hlt : j < n
    · have hjl : (j : Int) < (n : Int) := by omega
      have hj9 : (j : Int) < 1000 := by have := HS.out; omega
      obtain ⟨d, hd⟩ : ∃ d, ds[j]? = some d := ⟨_, List.getElem?_eq_getElem (by have := HN.out; omega)⟩
      obtain ⟨_, _, B, o, rfl, _, hl⟩ := HI.out j d.cells (by rw [List.getElem?_map, hd]; rfl)
      have hl2 := hl.below HB.out
      have e0 : wr.cell? ⟨B, o + j * 2, none⟩ = some (.string d.s) := hl2 0 _ rfl
      have e1 : wr.cell? ⟨B, o + j * 2 + 1, none⟩ = some (.int .i64 d.d) := hl2 1 _ rfl
      have HZ : Hid (ds[j]? = some d) := hd
      have HC : Hid (Calls Tryz.prog 100 #[.agg #[.string d.s, .int .i64 d.d], .pointer (some ⟨g, 0, none⟩)] wr fun e w' => e = .returned (.bool (gtS d.s q)) ∧ Below wr.heap.size wr w') := HP.out wr HB.out d
      obtain ⟨pz, hpz⟩ : ∃ pz, pz = gtS d.s q := ⟨_, rfl⟩
      rw [← hpz] at HC
      have HZP : Hid (pz = gtS d.s q) := hpz
      have HW : Hid (wrap64 ((j : Int) + 1) = ((j + 1 : Nat) : Int)) := wr1 hlt (by have := HS.out; omega)
      clear hd hpz hl hl2
      go_wp2_with fail
      refine HC.out.mono ?_
      rintro e w1 ⟨rfl, hb⟩
      have HB1 : Hid (Below w.heap.size w w1) := bel2 HB.out hb
      clear hb e0 e1
      cases pz with
      | true =>
        go_wp2_with fail
        exact HQ1.out j d _ HZ.out HZP.out.symm HF.out HB1.out
      | false =>
        have HF2 : Hid (∀ i d, i < j + 1 → ds[i]? = some d → gtS d.s q = false) := fun i z' hq hz' => by
          by_cases e : i = j
          · subst e; rw [HZ.out] at hz'; injection hz' with hz'; rw [← hz']; exact HZP.out.symm
          · exact HF.out i z' (by omega) hz'
        go_wp2_with fail
        exact ⟨⟨j + 1, hlt, by first | rw [HW.out] | exact congrArg _ (Int.natCast_succ j).symm, HF2, HB1⟩, by first | exact meas hlt HW.out | exact meas hlt (Int.natCast_succ j).symm⟩
    · obtain rfl : j = n := by omega
      go_wp2_with fail
      refine HQ2.out _ (fun z hz => ?_) HB.out
      obtain ⟨i, hi⟩ := List.getElem?_of_mem hz
      exact HF.out i z (by have := (List.getElem?_eq_some_iff.1 hi).1; have := HN.out; omega) hi
/-- Twelve cells that begin as an update does. -/
def Uh (r : Array Value) (u : Up) : Prop := r[0]? = some (.string u.s) ∧ r[6]? = some (.int .i64 u.g)
theorem IsU.uh {R : Value → Tv → Prop} {r : Array Value} {u : Up} (h : IsU R r u) : Uh r u := ⟨h.c0, h.c6⟩
/-- Updates one behind the other. -/
def RowU (w : World) (a : Option Addr) (ds : List Up) : Prop := ∃ us : List (Array Value), us.length = ds.length ∧ RowS (fun _ => True) w a 12 us ∧ ∀ (i : Nat) r u, us[i]? = some r → ds[i]? = some u → Uh r u
theorem RowU.below {w w' : World} {a : Option Addr} {ds : List Up} (h : RowU w a ds) (hb : Below w.heap.size w w') : RowU w' a ds := by
  obtain ⟨us, h1, h2, h3⟩ := h
  exact ⟨us, h1, h2.map (fun _ _ h => h) (fun _ _ _ hv => cell_below hv hb) (by decide), h3⟩
set_option maxHeartbeats 1000000 in
theorem ueq_calls (r : Array Value) (d : Up) (hr : Uh r d) (q : ByteArray) (g : Nat) (w : World) (hg : w.cell? ⟨g, 0, none⟩ = some (.string q)) :
    Calls Tryz.prog 111 #[.agg r, .pointer (some ⟨g, 0, none⟩)] w fun e w' => e = .returned (.bool (eqS d.s q)) ∧ Below w.heap.size w w' := by
  have hb := bel1 w (.cells r 50)
  have hg1 := cell_below hg hb
  have HB : Hid (Below w.heap.size w _) := hb
  obtain ⟨h0, h6⟩ := hr
  have hb6 : (w.alloc (.cells r 50)).cell? ⟨w.heap.size, 6, none⟩ = some (.int .i64 d.g) := row_cell (heap_alloc_last w _) h6
  clear hb hg
  go_enter Tryz.func111, Tryz.ntmps111
  go_wp2_with fail
  go_ret
  exact ⟨by first | rfl | simp, HB.out⟩
set_option maxHeartbeats 2000000 in
set_option maxRecDepth 100000 in
theorem ix50_calls (q : ByteArray) (ds : List Up) (a : Option Addr) (n c : Nat) (hn : ds.length = n) (hs : n ≤ 1000) (g : Nat) (w : World) (h : RowU w a ds) (hg : w.cell? ⟨g, 0, none⟩ = some (.string q)) :
    Calls Tryz.prog 110 #[.slice a n c, .func (.func 111) #[] #[.pointer (some ⟨g, 0, none⟩)]] w (IxP (ixI (fun d => eqS d.s q) ds) w) := by
  have HI : Hid (RowU w a ds) := h
  have HN : Hid (ds.length = n) := hn
  have HS : Hid (n ≤ 1000) := hs
  have HP : Hid (∀ W, Below w.heap.size w W → ∀ (r : Array Value) (d : Up), Uh r d → Calls Tryz.prog 111 #[.agg r, .pointer (some ⟨g, 0, none⟩)] W fun e w' => e = .returned (.bool (eqS d.s q)) ∧ Below W.heap.size W w') := fun W hB r d hr => ueq_calls r d hr q g W (cell_below hg hB)
  have HQ1 : Hid (∀ (j : Nat) (d : Up) w', ds[j]? = some d → (eqS d.s q) = true → (∀ i d, i < j → ds[i]? = some d → (eqS d.s q) = false) → Below w.heap.size w w' → IxP (ixI (fun d => eqS d.s q) ds) w (.returned (.int .i64 (j : Int))) w') := fun j z w' h1 h2 h3 h4 => ⟨by rw [ixI_some h1 h2 h3], h4⟩
  have HQ2 : Hid (∀ w', (∀ d ∈ ds, (eqS d.s q) = false) → Below w.heap.size w w' → IxP (ixI (fun d => eqS d.s q) ds) w (.returned (.int .i64 (-1))) w') := fun w' h1 h4 => ⟨by rw [ixI_none h1], h4⟩
  generalize IxP (ixI (fun d => eqS d.s q) ds) w = Q at HQ1 HQ2 ⊢
  clear h hn hs hg
  go_enter Tryz.func110, Tryz.ntmps110
  go_wp2_with fail
  go_loopw [5, 8] (fun _ i wr => ∃ j : Nat, j ≤ n ∧ i = .int .i64 (j : Int) ∧ Hid (∀ i d, i < j → ds[i]? = some d → (eqS d.s q) = false) ∧ Hid (Below w.heap.size w wr)) (fun _ i _ => n - (intOf i).toNat)
  case atStart => exact ⟨0, Nat.zero_le _, rfl, fun q z hq => absurd hq (Nat.not_lt_zero _), Below.refl _ _⟩
  case round =>
    obtain ⟨j, hj, rfl, HF, HB⟩ := hrel
    by_cases hlt : j < n
    · have hjl : (j : Int) < (n : Int) := by omega
      have hj9 : (j : Int) < 1000 := by have := HS.out; omega
      obtain ⟨d, hd⟩ : ∃ d, ds[j]? = some d := ⟨_, List.getElem?_eq_getElem (by have := HN.out; omega)⟩
      obtain ⟨us, u1, u2, u3⟩ := HI.out.below HB.out
      obtain ⟨r, hr⟩ : ∃ r, us[j]? = some r := ⟨_, List.getElem?_eq_getElem (by have := HN.out; omega)⟩
      obtain ⟨hsz, _, B, o, rfl, _, hl⟩ := u2 j r hr
      have hrng := lies_range hl
      have hi40 : (Tryz.prog.info? 50).map (·.size) = some r.toList.length := by rw [Array.length_toList]; exact info40s r hsz
      have HZ : Hid (ds[j]? = some d) := hd
      have HC : Hid (Calls Tryz.prog 111 #[.agg r, .pointer (some ⟨g, 0, none⟩)] wr fun e w' => e = .returned (.bool (eqS d.s q)) ∧ Below wr.heap.size wr w') := HP.out wr HB.out r d (u3 j r d hr hd)
      obtain ⟨pz, hpz⟩ : ∃ pz, pz = (eqS d.s q) := ⟨_, rfl⟩
      rw [← hpz] at HC
      have HZP : Hid (pz = (eqS d.s q)) := hpz
      have HW : Hid (wrap64 ((j : Int) + 1) = ((j + 1 : Nat) : Int)) := wr1 hlt (by have := HS.out; omega)
      clear hd hpz hl u1 u2 u3 hr hsz
      go_wp2_with (refine wpList_load_mid rfl 50 _ rfl B (o + j * 12) rfl r.toList _ hrng Tryz.underlying50 rfl hi40 ?_)
      refine HC.out.mono ?_
      rintro e w1 ⟨rfl, hb⟩
      have HB1 : Hid (Below w.heap.size w w1) := bel2 HB.out hb
      clear hb hrng
      cases pz with
      | true =>
        go_wp2_with fail
        exact HQ1.out j d _ HZ.out HZP.out.symm HF.out HB1.out
      | false =>
        have HF2 : Hid (∀ i d, i < j + 1 → ds[i]? = some d → (eqS d.s q) = false) := fun i z' hq hz' => by
          by_cases e : i = j
          · subst e; rw [HZ.out] at hz'; injection hz' with hz'; rw [← hz']; exact HZP.out.symm
          · exact HF.out i z' (by omega) hz'
        go_wp2_with fail
        exact ⟨⟨j + 1, hlt, by first | rw [HW.out] | exact congrArg _ (Int.natCast_succ j).symm, HF2, HB1⟩, by first | exact meas hlt HW.out | exact meas hlt (Int.natCast_succ j).symm⟩
    · obtain rfl : j = n := by omega
      go_wp2_with fail
      refine HQ2.out _ (fun z hz => ?_) HB.out
      obtain ⟨i, hi⟩ := List.getElem?_of_mem hz
      exact HF.out i z (by have := (List.getElem?_eq_some_iff.1 hi).1; have := HN.out; omega) hi
set_option maxHeartbeats 1000000 in
theorem uwt_calls (r : Array Value) (d : Up) (hr : Uh r d) (q : ByteArray) (g : Nat) (w : World) (hg : w.cell? ⟨g, 0, none⟩ = some (.string q)) :
    Calls Tryz.prog 112 #[.agg r, .pointer (some ⟨g, 0, none⟩)] w fun e w' => e = .returned (.bool (eqS d.s q && (d.g == 1))) ∧ Below w.heap.size w w' := by
  have hb := bel1 w (.cells r 50)
  have hg1 := cell_below hg hb
  have HB : Hid (Below w.heap.size w _) := hb
  obtain ⟨h0, h6⟩ := hr
  have hb6 : (w.alloc (.cells r 50)).cell? ⟨w.heap.size, 6, none⟩ = some (.int .i64 d.g) := row_cell (heap_alloc_last w _) h6
  clear hb hg
  generalize hz : eqS d.s q = z
  have hz' : (d.s.toList == q.toList) = z := hz
  cases z
  · go_enter Tryz.func112, Tryz.ntmps112
    go_wp2_with fail
    all_goals
      go_ret
      exact ⟨by first | rfl | simp, HB.out⟩
  · by_cases h1 : d.g = 1
    · rw [h1] at h6 hb6 ⊢
      go_enter Tryz.func112, Tryz.ntmps112
      go_wp2_with fail
      all_goals
        go_ret
        exact ⟨by first | rfl | simp, HB.out⟩
    · have h2 : (d.g == 1) = false := by simpa using h1
      go_enter Tryz.func112, Tryz.ntmps112
      go_wp2_with fail
      all_goals
        go_ret
        exact ⟨by first | rfl | simp [h2], HB.out⟩
set_option maxHeartbeats 2000000 in
set_option maxRecDepth 100000 in
theorem ix118_calls (q : ByteArray) (ds : List Up) (a : Option Addr) (n c : Nat) (hn : ds.length = n) (hs : n ≤ 1000) (g : Nat) (w : World) (h : RowU w a ds) (hg : w.cell? ⟨g, 0, none⟩ = some (.string q)) :
    Calls Tryz.prog 110 #[.slice a n c, .func (.func 112) #[] #[.pointer (some ⟨g, 0, none⟩)]] w (IxP (ixI (fun d => eqS d.s q && (d.g == 1)) ds) w) := by
  have HI : Hid (RowU w a ds) := h
  have HN : Hid (ds.length = n) := hn
  have HS : Hid (n ≤ 1000) := hs
  have HP : Hid (∀ W, Below w.heap.size w W → ∀ (r : Array Value) (d : Up), Uh r d → Calls Tryz.prog 112 #[.agg r, .pointer (some ⟨g, 0, none⟩)] W fun e w' => e = .returned (.bool (eqS d.s q && (d.g == 1))) ∧ Below W.heap.size W w') := fun W hB r d hr => uwt_calls r d hr q g W (cell_below hg hB)
  have HQ1 : Hid (∀ (j : Nat) (d : Up) w', ds[j]? = some d → (eqS d.s q && (d.g == 1)) = true → (∀ i d, i < j → ds[i]? = some d → (eqS d.s q && (d.g == 1)) = false) → Below w.heap.size w w' → IxP (ixI (fun d => eqS d.s q && (d.g == 1)) ds) w (.returned (.int .i64 (j : Int))) w') := fun j z w' h1 h2 h3 h4 => ⟨by rw [ixI_some h1 h2 h3], h4⟩
  have HQ2 : Hid (∀ w', (∀ d ∈ ds, (eqS d.s q && (d.g == 1)) = false) → Below w.heap.size w w' → IxP (ixI (fun d => eqS d.s q && (d.g == 1)) ds) w (.returned (.int .i64 (-1))) w') := fun w' h1 h4 => ⟨by rw [ixI_none h1], h4⟩
  generalize IxP (ixI (fun d => eqS d.s q && (d.g == 1)) ds) w = Q at HQ1 HQ2 ⊢
  clear h hn hs hg
  go_enter Tryz.func110, Tryz.ntmps110
  go_wp2_with fail
  go_loopw [5, 8] (fun _ i wr => ∃ j : Nat, j ≤ n ∧ i = .int .i64 (j : Int) ∧ Hid (∀ i d, i < j → ds[i]? = some d → (eqS d.s q && (d.g == 1)) = false) ∧ Hid (Below w.heap.size w wr)) (fun _ i _ => n - (intOf i).toNat)
  case atStart => exact ⟨0, Nat.zero_le _, rfl, fun q z hq => absurd hq (Nat.not_lt_zero _), Below.refl _ _⟩
  case round =>
    obtain ⟨j, hj, rfl, HF, HB⟩ := hrel
    by_cases hlt : j < n
    · have hjl : (j : Int) < (n : Int) := by omega
      have hj9 : (j : Int) < 1000 := by have := HS.out; omega
      obtain ⟨d, hd⟩ : ∃ d, ds[j]? = some d := ⟨_, List.getElem?_eq_getElem (by have := HN.out; omega)⟩
      obtain ⟨us, u1, u2, u3⟩ := HI.out.below HB.out
      obtain ⟨r, hr⟩ : ∃ r, us[j]? = some r := ⟨_, List.getElem?_eq_getElem (by have := HN.out; omega)⟩
      obtain ⟨hsz, _, B, o, rfl, _, hl⟩ := u2 j r hr
      have hrng := lies_range hl
      have hi40 : (Tryz.prog.info? 50).map (·.size) = some r.toList.length := by rw [Array.length_toList]; exact info40s r hsz
      have HZ : Hid (ds[j]? = some d) := hd
      have HC : Hid (Calls Tryz.prog 112 #[.agg r, .pointer (some ⟨g, 0, none⟩)] wr fun e w' => e = .returned (.bool (eqS d.s q && (d.g == 1))) ∧ Below wr.heap.size wr w') := HP.out wr HB.out r d (u3 j r d hr hd)
      obtain ⟨pz, hpz⟩ : ∃ pz, pz = (eqS d.s q && (d.g == 1)) := ⟨_, rfl⟩
      rw [← hpz] at HC
      have HZP : Hid (pz = (eqS d.s q && (d.g == 1))) := hpz
      have HW : Hid (wrap64 ((j : Int) + 1) = ((j + 1 : Nat) : Int)) := wr1 hlt (by have := HS.out; omega)
      clear hd hpz hl u1 u2 u3 hr hsz
      go_wp2_with (refine wpList_load_mid rfl 50 _ rfl B (o + j * 12) rfl r.toList _ hrng Tryz.underlying50 rfl hi40 ?_)
      refine HC.out.mono ?_
      rintro e w1 ⟨rfl, hb⟩
      have HB1 : Hid (Below w.heap.size w w1) := bel2 HB.out hb
      clear hb hrng
      cases pz with
      | true =>
        go_wp2_with fail
        exact HQ1.out j d _ HZ.out HZP.out.symm HF.out HB1.out
      | false =>
        have HF2 : Hid (∀ i d, i < j + 1 → ds[i]? = some d → (eqS d.s q && (d.g == 1)) = false) := fun i z' hq hz' => by
          by_cases e : i = j
          · subst e; rw [HZ.out] at hz'; injection hz' with hz'; rw [← hz']; exact HZP.out.symm
          · exact HF.out i z' (by omega) hz'
        go_wp2_with fail
        exact ⟨⟨j + 1, hlt, by first | rw [HW.out] | exact congrArg _ (Int.natCast_succ j).symm, HF2, HB1⟩, by first | exact meas hlt HW.out | exact meas hlt (Int.natCast_succ j).symm⟩
    · obtain rfl : j = n := by omega
      go_wp2_with fail
      refine HQ2.out _ (fun z hz => ?_) HB.out
      obtain ⟨i, hi⟩ := List.getElem?_of_mem hz
      exact HF.out i z (by have := (List.getElem?_eq_some_iff.1 hi).1; have := HN.out; omega) hi
set_option maxHeartbeats 1000000 in
theorem ugt_calls (r : Array Value) (d : Up) (hr : Uh r d) (q : ByteArray) (g : Nat) (w : World) (hg : w.cell? ⟨g, 4, none⟩ = some (.string q)) :
    Calls Tryz.prog 103 #[.agg r, .pointer (some ⟨g, 0, none⟩)] w fun e w' => e = .returned (.bool (gtS d.s q)) ∧ Below w.heap.size w w' := by
  have hb := bel1 w (.cells r 50)
  have hg1 := cell_below hg hb
  have HB : Hid (Below w.heap.size w _) := hb
  obtain ⟨h0, h6⟩ := hr
  have hb6 : (w.alloc (.cells r 50)).cell? ⟨w.heap.size, 6, none⟩ = some (.int .i64 d.g) := row_cell (heap_alloc_last w _) h6
  clear hb hg
  go_enter Tryz.func103, Tryz.ntmps103
  go_wp2_with fail
  go_ret
  exact ⟨by first | rfl | simp, HB.out⟩
set_option maxHeartbeats 2000000 in
set_option maxRecDepth 100000 in
theorem ix104_calls (q : ByteArray) (ds : List Up) (a : Option Addr) (n c : Nat) (hn : ds.length = n) (hs : n ≤ 1000) (g : Nat) (w : World) (h : RowU w a ds) (hg : w.cell? ⟨g, 4, none⟩ = some (.string q)) :
    Calls Tryz.prog 110 #[.slice a n c, .func (.func 103) #[] #[.pointer (some ⟨g, 0, none⟩)]] w (IxP (ixI (fun d => gtS d.s q) ds) w) := by
  have HI : Hid (RowU w a ds) := h
  have HN : Hid (ds.length = n) := hn
  have HS : Hid (n ≤ 1000) := hs
  have HP : Hid (∀ W, Below w.heap.size w W → ∀ (r : Array Value) (d : Up), Uh r d → Calls Tryz.prog 103 #[.agg r, .pointer (some ⟨g, 0, none⟩)] W fun e w' => e = .returned (.bool (gtS d.s q)) ∧ Below W.heap.size W w') := fun W hB r d hr => ugt_calls r d hr q g W (cell_below hg hB)
  have HQ1 : Hid (∀ (j : Nat) (d : Up) w', ds[j]? = some d → (gtS d.s q) = true → (∀ i d, i < j → ds[i]? = some d → (gtS d.s q) = false) → Below w.heap.size w w' → IxP (ixI (fun d => gtS d.s q) ds) w (.returned (.int .i64 (j : Int))) w') := fun j z w' h1 h2 h3 h4 => ⟨by rw [ixI_some h1 h2 h3], h4⟩
  have HQ2 : Hid (∀ w', (∀ d ∈ ds, (gtS d.s q) = false) → Below w.heap.size w w' → IxP (ixI (fun d => gtS d.s q) ds) w (.returned (.int .i64 (-1))) w') := fun w' h1 h4 => ⟨by rw [ixI_none h1], h4⟩
  generalize IxP (ixI (fun d => gtS d.s q) ds) w = Q at HQ1 HQ2 ⊢
  clear h hn hs hg
  go_enter Tryz.func110, Tryz.ntmps110
  go_wp2_with fail
  go_loopw [5, 8] (fun _ i wr => ∃ j : Nat, j ≤ n ∧ i = .int .i64 (j : Int) ∧ Hid (∀ i d, i < j → ds[i]? = some d → (gtS d.s q) = false) ∧ Hid (Below w.heap.size w wr)) (fun _ i _ => n - (intOf i).toNat)
  case atStart => exact ⟨0, Nat.zero_le _, rfl, fun q z hq => absurd hq (Nat.not_lt_zero _), Below.refl _ _⟩
  case round =>
    obtain ⟨j, hj, rfl, HF, HB⟩ := hrel
    by_cases hlt : j < n
    · have hjl : (j : Int) < (n : Int) := by omega
      have hj9 : (j : Int) < 1000 := by have := HS.out; omega
      obtain ⟨d, hd⟩ : ∃ d, ds[j]? = some d := ⟨_, List.getElem?_eq_getElem (by have := HN.out; omega)⟩
      obtain ⟨us, u1, u2, u3⟩ := HI.out.below HB.out
      obtain ⟨r, hr⟩ : ∃ r, us[j]? = some r := ⟨_, List.getElem?_eq_getElem (by have := HN.out; omega)⟩
      obtain ⟨hsz, _, B, o, rfl, _, hl⟩ := u2 j r hr
      have hrng := lies_range hl
      have hi40 : (Tryz.prog.info? 50).map (·.size) = some r.toList.length := by rw [Array.length_toList]; exact info40s r hsz
      have HZ : Hid (ds[j]? = some d) := hd
      have HC : Hid (Calls Tryz.prog 103 #[.agg r, .pointer (some ⟨g, 0, none⟩)] wr fun e w' => e = .returned (.bool (gtS d.s q)) ∧ Below wr.heap.size wr w') := HP.out wr HB.out r d (u3 j r d hr hd)
      obtain ⟨pz, hpz⟩ : ∃ pz, pz = (gtS d.s q) := ⟨_, rfl⟩
      rw [← hpz] at HC
      have HZP : Hid (pz = (gtS d.s q)) := hpz
      have HW : Hid (wrap64 ((j : Int) + 1) = ((j + 1 : Nat) : Int)) := wr1 hlt (by have := HS.out; omega)
      clear hd hpz hl u1 u2 u3 hr hsz
      go_wp2_with (refine wpList_load_mid rfl 50 _ rfl B (o + j * 12) rfl r.toList _ hrng Tryz.underlying50 rfl hi40 ?_)
      refine HC.out.mono ?_
      rintro e w1 ⟨rfl, hb⟩
      have HB1 : Hid (Below w.heap.size w w1) := bel2 HB.out hb
      clear hb hrng
      cases pz with
      | true =>
        go_wp2_with fail
        exact HQ1.out j d _ HZ.out HZP.out.symm HF.out HB1.out
      | false =>
        have HF2 : Hid (∀ i d, i < j + 1 → ds[i]? = some d → (gtS d.s q) = false) := fun i z' hq hz' => by
          by_cases e : i = j
          · subst e; rw [HZ.out] at hz'; injection hz' with hz'; rw [← hz']; exact HZP.out.symm
          · exact HF.out i z' (by omega) hz'
        go_wp2_with fail
        exact ⟨⟨j + 1, hlt, by first | rw [HW.out] | exact congrArg _ (Int.natCast_succ j).symm, HF2, HB1⟩, by first | exact meas hlt HW.out | exact meas hlt (Int.natCast_succ j).symm⟩
    · obtain rfl : j = n := by omega
      go_wp2_with fail
      refine HQ2.out _ (fun z hz => ?_) HB.out
      obtain ⟨i, hi⟩ := List.getElem?_of_mem hz
      exact HF.out i z (by have := (List.getElem?_eq_some_iff.1 hi).1; have := HN.out; omega) hi
/-- Where a state's timer, update, update without an outcome of a name is. -/
def tmAt (s : Sta) (q : ByteArray) : Int := ixI (fun d => eqS d.s q) s.tm
def upAt (s : Sta) (q : ByteArray) : Int := ixI (fun d => eqS d.s q) s.up
def waAt (s : Sta) (q : ByteArray) : Int := ixI (fun d => eqS d.s q && (d.g == 1)) s.up
theorem Rs.rowT {w : World} {n : Nat} {cs : Array Value} {s : Sta} (h : Rs w n cs s) : ∃ a c, cs[23]? = some (.slice a s.tm.length c) ∧ RowS (fun _ => True) w a 2 (s.tm.map Tm.cells) := h.tm
theorem Rs.rowU {w : World} {n : Nat} {cs : Array Value} {s : Sta} (h : Rs w n cs s) : ∃ a c, cs[24]? = some (.slice a s.up.length c) ∧ RowU w a s.up := by
  obtain ⟨a, c, us, h1, h2, h3, h4⟩ := h.up
  exact ⟨a, c, h1, us, h2, h3, fun i r u hr hu => (h4 i r u hr hu).uh⟩
theorem box_str (w : World) (cs : Array Value) (q : ByteArray) : ((w.alloc (.cells cs 41)).alloc (.cells #[.string q] 9)).cell? ⟨w.heap.size + 1, 0, none⟩ = some (.string q) := row_cell (heap_alloc2_new _ _ _) rfl
set_option maxHeartbeats 1000000 in
theorem timerAt_calls (n : Nat) (cs : Array Value) (s : Sta) (q : ByteArray) (w : World) (h : Rs w n cs s) (hl : s.tm.length ≤ 1000) : Calls Tryz.prog 95 #[.agg cs, .string q] w (IxP (tmAt s q) w) := by
  obtain ⟨a, c, h1, h2⟩ := h.rowT
  have hB : Below w.heap.size w ((w.alloc (.cells cs 41)).alloc (.cells #[.string q] 9)) := bel2 (bel1 _ _) (bel1 _ _)
  have K : Hid (Calls Tryz.prog _ _ _ _) := ix117_calls q s.tm a _ c rfl hl (w.heap.size + 1) ((w.alloc (.cells cs 41)).alloc (.cells #[.string q] 9)) (h2.map (fun _ _ h => h) (fun _ _ _ hv => cell_below hv hB) (by decide)) (box_str w cs q)
  have HB : Hid (Below w.heap.size w _) := hB
  have HQ : Hid (∀ w', Below w.heap.size w w' → IxP (tmAt s q) w (.returned (.int .i64 (tmAt s q))) w') := fun w' h => ⟨rfl, h⟩
  have HJ : Hid (∀ e w', IxP (tmAt s q) ((w.alloc (.cells cs 41)).alloc (.cells #[.string q] 9)) e w' → e = .returned (.int .i64 (tmAt s q)) ∧ Below w.heap.size w w') := fun e w' h => ⟨h.1, bel2 hB h.2⟩
  have hk : (Calls Tryz.prog _ _ _ (IxP (tmAt s q) ((w.alloc (.cells cs 41)).alloc (.cells #[.string q] 9)))) := K.out
  have K2 : Hid (Calls Tryz.prog _ _ _ _) := hk.mono HJ.out
  generalize IxP (tmAt s q) w = Q at HQ ⊢
  generalize tmAt s q = z at K2 HQ
  clear h hl h2 hB K HJ hk
  generalize s.tm.length = m at h1 K2
  go_enter Tryz.func95, Tryz.ntmps95
  go_wp2_with fail
  refine K2.out.mono ?_
  rintro e w1 ⟨rfl, hb⟩
  go_wp2_with fail
  exact HQ.out _ hb
set_option maxHeartbeats 1000000 in
theorem updateAt_calls (n : Nat) (cs : Array Value) (s : Sta) (q : ByteArray) (w : World) (h : Rs w n cs s) (hl : s.up.length ≤ 1000) : Calls Tryz.prog 96 #[.agg cs, .string q] w (IxP (upAt s q) w) := by
  obtain ⟨a, c, h1, h2⟩ := h.rowU
  have hB : Below w.heap.size w ((w.alloc (.cells cs 41)).alloc (.cells #[.string q] 9)) := bel2 (bel1 _ _) (bel1 _ _)
  have K : Hid (Calls Tryz.prog _ _ _ _) := ix50_calls q s.up a _ c rfl hl (w.heap.size + 1) ((w.alloc (.cells cs 41)).alloc (.cells #[.string q] 9)) (h2.below hB) (box_str w cs q)
  have HB : Hid (Below w.heap.size w _) := hB
  have HQ : Hid (∀ w', Below w.heap.size w w' → IxP (upAt s q) w (.returned (.int .i64 (upAt s q))) w') := fun w' h => ⟨rfl, h⟩
  have HJ : Hid (∀ e w', IxP (upAt s q) ((w.alloc (.cells cs 41)).alloc (.cells #[.string q] 9)) e w' → e = .returned (.int .i64 (upAt s q)) ∧ Below w.heap.size w w') := fun e w' h => ⟨h.1, bel2 hB h.2⟩
  have hk : (Calls Tryz.prog _ _ _ (IxP (upAt s q) ((w.alloc (.cells cs 41)).alloc (.cells #[.string q] 9)))) := K.out
  have K2 : Hid (Calls Tryz.prog _ _ _ _) := hk.mono HJ.out
  generalize IxP (upAt s q) w = Q at HQ ⊢
  generalize upAt s q = z at K2 HQ
  clear h hl h2 hB K HJ hk
  generalize s.up.length = m at h1 K2
  go_enter Tryz.func96, Tryz.ntmps96
  go_wp2_with fail
  refine K2.out.mono ?_
  rintro e w1 ⟨rfl, hb⟩
  go_wp2_with fail
  exact HQ.out _ hb
set_option maxHeartbeats 1000000 in
theorem waitingAt_calls (n : Nat) (cs : Array Value) (s : Sta) (q : ByteArray) (w : World) (h : Rs w n cs s) (hl : s.up.length ≤ 1000) : Calls Tryz.prog 97 #[.agg cs, .string q] w (IxP (waAt s q) w) := by
  obtain ⟨a, c, h1, h2⟩ := h.rowU
  have hB : Below w.heap.size w ((w.alloc (.cells cs 41)).alloc (.cells #[.string q] 9)) := bel2 (bel1 _ _) (bel1 _ _)
  have K : Hid (Calls Tryz.prog _ _ _ _) := ix118_calls q s.up a _ c rfl hl (w.heap.size + 1) ((w.alloc (.cells cs 41)).alloc (.cells #[.string q] 9)) (h2.below hB) (box_str w cs q)
  have HB : Hid (Below w.heap.size w _) := hB
  have HQ : Hid (∀ w', Below w.heap.size w w' → IxP (waAt s q) w (.returned (.int .i64 (waAt s q))) w') := fun w' h => ⟨rfl, h⟩
  have HJ : Hid (∀ e w', IxP (waAt s q) ((w.alloc (.cells cs 41)).alloc (.cells #[.string q] 9)) e w' → e = .returned (.int .i64 (waAt s q)) ∧ Below w.heap.size w w') := fun e w' h => ⟨h.1, bel2 hB h.2⟩
  have hk : (Calls Tryz.prog _ _ _ (IxP (waAt s q) ((w.alloc (.cells cs 41)).alloc (.cells #[.string q] 9)))) := K.out
  have K2 : Hid (Calls Tryz.prog _ _ _ _) := hk.mono HJ.out
  generalize IxP (waAt s q) w = Q at HQ ⊢
  generalize waAt s q = z at K2 HQ
  clear h hl h2 hB K HJ hk
  generalize s.up.length = m at h1 K2
  go_enter Tryz.func97, Tryz.ntmps97
  go_wp2_with fail
  refine K2.out.mono ?_
  rintro e w1 ⟨rfl, hb⟩
  go_wp2_with fail
  exact HQ.out _ hb
end Go.Proofs.YtcdhlklmnnmpoaaGreat
