/- BB, BC, BD, BE, BI, put together. -/
import Derived.Test.YtkaaddahegkmgaaGreatBA
import Derived.Deep.RegionHeld3
import Derived.Deep.DeepCutAuto
import Derived.Laws.EntriesVeiled
namespace Go.Proofs.YtkaaddahegkmgaaGreat
open Go.ChangeShapes Go.WideShapes Go.ChangeAt Go.RowKit
/-- Check's two variables: right, and hold. -/
structure JC (lo gr gh : Nat) (r : Bool) (W : World) : Prop where
  right : Bk W gr #[.bool r] 4
  hold : Bk W gh #[.func (.func 83) #[] #[.pointer (some ⟨gr, 0, none⟩)]] 116
  lor : lo ≤ gr
  low : lo ≤ W.heap.size
def CkP (lo gr gh : Nat) (r : Bool) (W : World) (e : Ending) (W' : World) : Prop := e = .returned (.tuple #[]) ∧ JC lo gr gh r W' ∧ Fr lo W W'
theorem JC.below {lo gr gh : Nat} {r : Bool} {W W' : World} (h : JC lo gr gh r W) (hb : Below W.heap.size W W') : JC lo gr gh r W' :=
  ⟨h.right.below hb, h.hold.below hb, h.lor, Nat.le_trans h.low hb.size⟩
theorem JC.put {lo gr gh : Nat} {r : Bool} {W : World} (h : JC lo gr gh r W) (q : Bool) : JC lo gr gh q (W.setCell ⟨gr, 0, none⟩ (.bool q)) ∧ Fr lo W (W.setCell ⟨gr, 0, none⟩ (.bool q)) := by
  have k : KT (fun t => t ≠ 4) W (W.setCell ⟨gr, 0, none⟩ (.bool q)) := KT.set h.right 0 _
  exact ⟨⟨h.right.set 0 (.bool q), h.hold.kt k (by decide), h.lor, by have := h.low; simpa [World.setCell] using this⟩, (KB.setCell gr W 0 _).below h.lor h.low, k.mono (fun t ht => ht.1)⟩
def hd (r : Bool) (n least most : Int) : Bool := r && (decide (least ≤ n) && decide (n ≤ most))
set_option maxHeartbeats 1000000 in
theorem hold_calls (lo gr gh : Nat) (r : Bool) (W : World) (n least most : Int) (h : JC lo gr gh r W) :
    Calls Tryz.prog 83 #[.int .i64 n, .int .i64 least, .int .i64 most, .pointer (some ⟨gr, 0, none⟩)] W (CkP lo gr gh (hd r n least most) W) := by
  have H : Hid (JC lo gr gh r W) := h
  have c0 := h.right.cell 0
  have f0 := h.right.frozen 0
  clear h
  simp only [List.getElem?_toArray, List.getElem?_cons_zero] at c0
  obtain ⟨q, hq⟩ : ∃ q, q = hd r n least most := ⟨_, rfl⟩
  have HQ : Hid (q = hd r n least most) := hq
  rw [← hq]
  clear hq
  cases r with
  | false =>
    have e : q = false := HQ.out
    subst e
    go_enter Tryz.func83, Tryz.ntmps83
    go_wp2
    first | go_end0 | refine bodyPost_ret (results_none rfl _ _ _) rfl ?_
    exact ⟨rfl, (H.out.put false).1, (H.out.put false).2⟩
  | true =>
    by_cases h1 : least ≤ n
    · by_cases h2 : n ≤ most
      · have e : q = true := by rw [HQ.out]; simp [hd, h1, h2]
        subst e
        go_enter Tryz.func83, Tryz.ntmps83
        go_wp2
        first | go_end0 | refine bodyPost_ret (results_none rfl _ _ _) rfl ?_
        exact ⟨rfl, (H.out.put true).1, (H.out.put true).2⟩
      · have e : q = false := by rw [HQ.out]; simp [hd, h2]
        subst e
        go_enter Tryz.func83, Tryz.ntmps83
        go_wp2
        first | go_end0 | refine bodyPost_ret (results_none rfl _ _ _) rfl ?_
        exact ⟨rfl, (H.out.put false).1, (H.out.put false).2⟩
    · have e : q = false := by rw [HQ.out]; simp [hd, h1]
      subst e
      go_enter Tryz.func83, Tryz.ntmps83
      go_wp2
      first | go_end0 | refine bodyPost_ret (results_none rfl _ _ _) rfl ?_
      exact ⟨rfl, (H.out.put false).1, (H.out.put false).2⟩
/-- The cell a holds v, whatever is done to the variables of Check, or of Encode. -/
def Pers (lo : Nat) (W : World) (a : Addr) (v : Value) : Prop := ∀ W', Fr lo W W' → W'.cell? a = some v
theorem Pers.fr {lo : Nat} {W W' : World} {a : Addr} {v : Value} (h : Pers lo W a v) (f : Fr lo W W') : Pers lo W' a v := fun W2 k => h W2 (f.trans k)
theorem Pers.now {lo : Nat} {W : World} {a : Addr} {v : Value} (h : Pers lo W a v) : W.cell? a = some v := h W (Fr.refl _ _)
set_option maxHeartbeats 1000000 in
theorem cnum_calls (lo gr gh : Nat) (r : Bool) (W : World) (a : Addr) (n most : Int) (h : JC lo gr gh r W) (hp : Pers lo W a (.int .i64 n)) :
    Calls Tryz.prog 84 #[.pointer (some a), .int .i64 most, .pointer (some ⟨gh, 0, none⟩)] W (CkP lo gr gh (hd r n 0 most) W) := by
  have c0 := h.hold.cell 0
  simp only [List.getElem?_toArray, List.getElem?_cons_zero] at c0
  have a0 := hp.now
  have HP : Hid (Pers lo W a (.int .i64 n)) := hp
  have HC : Hid (∀ W', W' = W.drew → Calls Tryz.prog 83 #[.int .i64 n, .int .i64 0, .int .i64 most, .pointer (some ⟨gr, 0, none⟩)] W' (CkP lo gr gh (hd r n 0 most) W')) := fun W' e => by subst e; exact hold_calls lo gr gh r _ _ _ _ (h.below (Below.refl _ W).drew)
  have HF : Hid (Fr lo W W.drew) := Fr.below (Below.refl _ W).drew h.low
  clear h hp
  go_enter Tryz.func84, Tryz.ntmps84
  go_wp2_with fail
  go_region_held3 (fun w' => w'.cell? ⟨gh, 0, none⟩ = some (.func (.func 83) #[] #[.pointer (some ⟨gr, 0, none⟩)]) ∧ w'.cell? a = some (.int .i64 n)) (go_keep) (first
    | (go_at_call 83; refine (HC.out _ rfl).mono ?_; rintro e w1 ⟨rfl, hj, hf⟩; have HJ : Hid (JC lo gr gh _ w1) := hj; have HF1 : Hid (Fr lo _ w1) := HF.out.trans hf; have c1 := hj.hold.cell 0; have a1 := HP.out w1 HF1.out; simp only [List.getElem?_toArray, List.getElem?_cons_zero] at c1; clear hj hf)
    )
  go_wp2_with fail
  first | go_end0 | refine bodyPost_ret (results_none rfl _ _ _) rfl ?_
  exact ⟨rfl, HJ.out, HF1.out⟩
set_option maxHeartbeats 1000000 in
theorem ctext_calls (lo gr gh : Nat) (r : Bool) (W : World) (a : Addr) (s : ByteArray) (least most : Int) (h : JC lo gr gh r W) (hp : Pers lo W a (.string s)) :
    Calls Tryz.prog 85 #[.pointer (some a), .int .i64 least, .int .i64 most, .pointer (some ⟨gh, 0, none⟩)] W (CkP lo gr gh (hd r (s.size : Int) least most) W) := by
  have c0 := h.hold.cell 0
  simp only [List.getElem?_toArray, List.getElem?_cons_zero] at c0
  have a0 := hp.now
  have HP : Hid (Pers lo W a (.string s)) := hp
  have HC : Hid (∀ W', W' = W.drew → Calls Tryz.prog 83 #[.int .i64 (s.size : Int), .int .i64 least, .int .i64 most, .pointer (some ⟨gr, 0, none⟩)] W' (CkP lo gr gh (hd r (s.size : Int) least most) W')) := fun W' e => by subst e; exact hold_calls lo gr gh r _ _ _ _ (h.below (Below.refl _ W).drew)
  have HF : Hid (Fr lo W W.drew) := Fr.below (Below.refl _ W).drew h.low
  clear h hp
  go_enter Tryz.func85, Tryz.ntmps85
  go_wp2_with fail
  go_region_held3 (fun w' => w'.cell? ⟨gh, 0, none⟩ = some (.func (.func 83) #[] #[.pointer (some ⟨gr, 0, none⟩)]) ∧ w'.cell? a = some (.string s)) (go_keep) (first
    | (go_at_call 83; refine (HC.out _ rfl).mono ?_; rintro e w1 ⟨rfl, hj, hf⟩; have HJ : Hid (JC lo gr gh _ w1) := hj; have HF1 : Hid (Fr lo _ w1) := HF.out.trans hf; have c1 := hj.hold.cell 0; have a1 := HP.out w1 HF1.out; simp only [List.getElem?_toArray, List.getElem?_cons_zero] at c1; clear hj hf)
    )
  go_wp2_with fail
  first | go_end0 | refine bodyPost_ret (results_none rfl _ _ _) rfl ?_
  exact ⟨rfl, HJ.out, HF1.out⟩
set_option maxHeartbeats 1000000 in
theorem cbytes_calls (lo gr gh : Nat) (r : Bool) (W : World) (a : Addr) (p : Option Addr) (n c : Nat) (least most : Int) (h : JC lo gr gh r W) (hp : Pers lo W a (.slice p n c)) :
    Calls Tryz.prog 86 #[.pointer (some a), .int .i64 least, .int .i64 most, .pointer (some ⟨gh, 0, none⟩)] W (CkP lo gr gh (hd r (n : Int) least most) W) := by
  have c0 := h.hold.cell 0
  simp only [List.getElem?_toArray, List.getElem?_cons_zero] at c0
  have a0 := hp.now
  have HP : Hid (Pers lo W a (.slice p n c)) := hp
  have HC : Hid (∀ W', W' = W.drew → Calls Tryz.prog 83 #[.int .i64 (n : Int), .int .i64 least, .int .i64 most, .pointer (some ⟨gr, 0, none⟩)] W' (CkP lo gr gh (hd r (n : Int) least most) W')) := fun W' e => by subst e; exact hold_calls lo gr gh r _ _ _ _ (h.below (Below.refl _ W).drew)
  have HF : Hid (Fr lo W W.drew) := Fr.below (Below.refl _ W).drew h.low
  clear h hp
  go_enter Tryz.func86, Tryz.ntmps86
  go_wp2_with fail
  go_region_held3 (fun w' => w'.cell? ⟨gh, 0, none⟩ = some (.func (.func 83) #[] #[.pointer (some ⟨gr, 0, none⟩)]) ∧ w'.cell? a = some (.slice p n c)) (go_keep) (first
    | (go_at_call 83; refine (HC.out _ rfl).mono ?_; rintro e w1 ⟨rfl, hj, hf⟩; have HJ : Hid (JC lo gr gh _ w1) := hj; have HF1 : Hid (Fr lo _ w1) := HF.out.trans hf; have c1 := hj.hold.cell 0; have a1 := HP.out w1 HF1.out; simp only [List.getElem?_toArray, List.getElem?_cons_zero] at c1; clear hj hf)
    )
  go_wp2_with fail
  first | go_end0 | refine bodyPost_ret (results_none rfl _ _ _) rfl ?_
  exact ⟨rfl, HJ.out, HF1.out⟩
set_option maxHeartbeats 1000000 in
theorem ccount_calls (lo gr gh : Nat) (r : Bool) (W : World) (n most : Int) (fv : Value) (h : JC lo gr gh r W) :
    Calls Tryz.prog 87 #[.int .i64 n, .int .i64 most, fv, .pointer (some ⟨gh, 0, none⟩)] W (CkP lo gr gh (hd r n 0 most) W) := by
  have c0 := h.hold.cell 0
  simp only [List.getElem?_toArray, List.getElem?_cons_zero] at c0
  have HC : Hid (∀ W', W' = W → Calls Tryz.prog 83 #[.int .i64 n, .int .i64 0, .int .i64 most, .pointer (some ⟨gr, 0, none⟩)] W' (CkP lo gr gh (hd r n 0 most) W')) := fun W' e => by subst e; exact hold_calls lo gr gh r _ _ _ _ h
  have HF : Hid (Fr lo W W) := Fr.refl _ _
  clear h
  go_enter Tryz.func87, Tryz.ntmps87
  go_wp2_with fail
  refine (HC.out _ rfl).mono ?_
  rintro e w1 ⟨rfl, hj, hf⟩
  have HJ : Hid (JC lo gr gh _ w1) := hj
  have HF1 : Hid (Fr lo _ w1) := hf
  clear hj hf
  go_wp2_with fail
  first | go_end0 | refine bodyPost_ret (results_none rfl _ _ _) rfl ?_
  exact ⟨rfl, HJ.out, HF1.out⟩
end Go.Proofs.YtkaaddahegkmgaaGreat
namespace Go.Proofs.YtkaaddahegkmgaaGreat
open Go.ChangeShapes Go.WideShapes Go.ChangeAt Go.RowKit
theorem Pers.old {w W : World} {a : Addr} {v : Value} (h : w.cell? a = some v) (hW : Below w.heap.size w W) : Pers w.heap.size W a v := fun _ f => cell_below h (hW.trans f.1)
theorem Pers.bk {lo : Nat} {W : World} {g i : Nat} {cs : Array Value} {t : TypeId} {v : Value} (h : Bk W g cs t) (ht : t ≠ 4 ∧ t ≠ 5 ∧ t ≠ 26) (hv : cs[i]? = some v) : Pers lo W ⟨g, i, none⟩ v := fun _ f => ((f.bk h ht).cell i).trans hv
/-- What the four closures make of a state; conditions; what they are told. -/
structure Ways (σ : Type) where
  N : σ → Int → Int → σ
  T : σ → ByteArray → Int → Int → σ
  B : σ → List UInt8 → Int → Int → σ
  C : σ → Int → Int → σ
  gN : σ → Int → Prop
  gT : σ → ByteArray → Prop
  gB : σ → List UInt8 → Prop
def CloP (lo : Nat) {σ : Type} (J : σ → World → Prop) (st : σ) (W : World) (e : Ending) (W' : World) : Prop := e = .returned (.tuple #[]) ∧ J st W' ∧ Fr lo W W'
structure Clo (lo : Nat) (k0 k1 k2 k3 : FuncId) (cap : Value) {σ : Type} (J : σ → World → Prop) (s : Ways σ) : Prop where
  below : ∀ st W W', J st W → Below W.heap.size W W' → J st W'
  low : ∀ st W, J st W → lo ≤ W.heap.size
  num : ∀ st W a n most, J st W → s.gN st n → Pers lo W a (.int .i64 n) → Calls Tryz.prog k0 #[.pointer (some a), .int .i64 most, cap] W (CloP lo J (s.N st n most) W)
  text : ∀ st W a x least most, J st W → s.gT st x → Pers lo W a (.string x) → Calls Tryz.prog k1 #[.pointer (some a), .int .i64 least, .int .i64 most, cap] W (CloP lo J (s.T st x least most) W)
  bytes : ∀ st W a p n c l least most, J st W → s.gB st l → Pers lo W a (.slice p n c) → (∀ W', Fr lo W W' → Lib.HoldsBytes W' (.slice p n c) l) → Calls Tryz.prog k2 #[.pointer (some a), .int .i64 least, .int .i64 most, cap] W (CloP lo J (s.B st l least most) W)
  count : ∀ st W n most fv, J st W → s.gN st n → Calls Tryz.prog k3 #[.int .i64 n, .int .i64 most, fv, cap] W (CloP lo J (s.C st n most) W)
/-- What going through a write's fields makes of a state: ahead of its events, and of these. -/
def wy0 {σ : Type} (s : Ways σ) (st : σ) (t : Wt) : σ := s.C (s.N (s.N (s.T (s.T st t.br 1 64) t.fk 0 64) t.kp 120) t.ta 120) (t.ev.length : Int) 120
def wyE {σ : Type} (s : Ways σ) (st : σ) (l : List (List UInt8)) : σ := l.foldl (fun st e => s.B st e 1 4096) st
def wyW {σ : Type} (s : Ways σ) (st : σ) (t : Wt) : σ := wyE s (wy0 s st t) t.ev
theorem wyE_more {σ : Type} (s : Ways σ) (st : σ) (l : List (List UInt8)) (j : Nat) (h : j < l.length) : wyE s st (l.take (j + 1)) = s.B (wyE s st (l.take j)) l[j] 1 4096 := by
  unfold wyE
  rw [List.take_add_one, List.getElem?_eq_getElem h, List.foldl_append]
  rfl
/-- The conditions at a write. -/
structure GW {σ : Type} (s : Ways σ) (st : σ) (t : Wt) : Prop where
  g1 : s.gT st t.br
  g2 : s.gT (s.T st t.br 1 64) t.fk
  g3 : s.gN (s.T (s.T st t.br 1 64) t.fk 0 64) t.kp
  g4 : s.gN (s.N (s.T (s.T st t.br 1 64) t.fk 0 64) t.kp 120) t.ta
  g5 : s.gN (s.N (s.N (s.T (s.T st t.br 1 64) t.fk 0 64) t.kp 120) t.ta 120) (t.ev.length : Int)
  g6 : ∀ j (h : j < t.ev.length), s.gB (wyE s (wy0 s st t) (t.ev.take j)) t.ev[j]
/-- And through a batch's. -/
def by0 {σ : Type} (s : Ways σ) (st : σ) (b : Bt) : σ := s.C (s.B (s.N (s.T st b.key 1 64) b.ex 2147483648) b.row 0 524288) (b.ws.length : Int) 4
def byW {σ : Type} (s : Ways σ) (st : σ) (l : List Wt) : σ := l.foldl (wyW s) st
def byB {σ : Type} (s : Ways σ) (st : σ) (b : Bt) : σ := byW s (by0 s st b) b.ws
theorem byW_more {σ : Type} (s : Ways σ) (st : σ) (l : List Wt) (j : Nat) (h : j < l.length) : byW s st (l.take (j + 1)) = wyW s (byW s st (l.take j)) l[j] := by
  unfold byW
  rw [List.take_add_one, List.getElem?_eq_getElem h, List.foldl_append]
  rfl
structure GB {σ : Type} (s : Ways σ) (st : σ) (b : Bt) : Prop where
  g1 : s.gT st b.key
  g2 : s.gN (s.T st b.key 1 64) b.ex
  g3 : s.gB (s.N (s.T st b.key 1 64) b.ex 2147483648) b.row
  g4 : s.gN (s.B (s.N (s.T st b.key 1 64) b.ex 2147483648) b.row 0 524288) (b.ws.length : Int)
  g5 : ∀ j (h : j < b.ws.length), GW s (byW s (by0 s st b) (b.ws.take j)) b.ws[j]
/-- The two boxes of write. -/
structure Bx (W : World) (q : Nat) (f0 f1 f2 f3 : Value) (a : Addr) (t : TypeId) : Prop where
  f : Bk W q #[f0, f1, f2, f3] 126
  p : Bk W (q + 1) #[.pointer (some a)] t
theorem Bx.new (W : World) (f0 f1 f2 f3 : Value) (a : Addr) (t : TypeId) : Bx ((W.alloc (.cells #[f0, f1, f2, f3] 126)).alloc (.cells #[.pointer (some a)] t)) W.heap.size f0 f1 f2 f3 a t := by
  refine ⟨(Bk.new W _ _).below (bel1 _ _), ?_⟩
  have := Bk.new (W.alloc (.cells #[f0, f1, f2, f3] 126)) #[.pointer (some a)] t
  simpa using this
theorem Bx.fr {lo : Nat} {W W' : World} {q : Nat} {f0 f1 f2 f3 : Value} {a : Addr} {t : TypeId} (h : Bx W q f0 f1 f2 f3 a t) (k : Fr lo W W') (ht : t ≠ 4 ∧ t ≠ 5 ∧ t ≠ 26) : Bx W' q f0 f1 f2 f3 a t := ⟨k.bk h.f (by decide), k.bk h.p ht⟩
/-- Its cells, as the walk reads them. -/
theorem Bx.cells {W : World} {q : Nat} {f0 f1 f2 f3 : Value} {a : Addr} {t : TypeId} (h : Bx W q f0 f1 f2 f3 a t) : W.cell? ⟨q, 0, none⟩ = some f0 ∧ W.cell? ⟨q, 1, none⟩ = some f1 ∧ W.cell? ⟨q, 2, none⟩ = some f2 ∧ W.cell? ⟨q, 3, none⟩ = some f3 ∧ W.cell? ⟨q + 1, 0, none⟩ = some (.pointer (some a)) :=
  ⟨h.f.cell 0, h.f.cell 1, h.f.cell 2, h.f.cell 3, h.p.cell 0⟩
/-- Where a walk through fields stands: the two boxes, the state. -/
structure Wk (lo : Nat) {σ : Type} (J : σ → World → Prop) (W0 W : World) (q : Nat) (f0 f1 f2 f3 : Value) (a : Addr) (t : TypeId) (st : σ) : Prop where
  bx : Bx W q f0 f1 f2 f3 a t
  st : J st W
  fr : Fr lo W0 W
theorem Wk.step {lo : Nat} {σ : Type} {J : σ → World → Prop} {W0 W W' : World} {q : Nat} {f0 f1 f2 f3 : Value} {a : Addr} {t : TypeId} {st st' : σ} (h : Wk lo J W0 W q f0 f1 f2 f3 a t st) (k : Fr lo W W') (j : J st' W') (ht : t ≠ 4 ∧ t ≠ 5 ∧ t ≠ 26) : Wk lo J W0 W' q f0 f1 f2 f3 a t st' := ⟨h.bx.fr k ht, j, h.fr.trans k⟩
/-- Behind the draw of an order. -/
theorem Wk.drew {lo : Nat} {σ : Type} {J : σ → World → Prop} {W0 W : World} {q : Nat} {f0 f1 f2 f3 : Value} {a : Addr} {t : TypeId} {st : σ} (h : Wk lo J W0 W q f0 f1 f2 f3 a t st) (hb : ∀ st W W', J st W → Below W.heap.size W W' → J st W') (hl : lo ≤ W.heap.size) (ht : t ≠ 4 ∧ t ≠ 5 ∧ t ≠ 26) : Wk lo J W0 W.drew q f0 f1 f2 f3 a t st :=
  h.step (Fr.below (Below.refl _ W).drew hl) (hb _ _ _ h.st (Below.refl _ W).drew) ht
end Go.Proofs.YtkaaddahegkmgaaGreat
namespace Go.Proofs.YtkaaddahegkmgaaGreat
open Go.ChangeShapes Go.WideShapes Go.ChangeAt Go.RowKit
set_option maxHeartbeats 4000000 in
set_option maxRecDepth 100000 in
theorem write_walkC {σ : Type} {J : σ → World → Prop} {s : Ways σ} (w : World) (cap : Value) (hc : Clo w.heap.size 84 85 86 87 cap J s) (t : Wt) (B p : Nat) (ev : Value) (h5 : At5 w B p (.string t.br) (.string t.fk) (.int .i64 t.kp) (.int .i64 t.ta) ev) (hl : LR w ev t.ev) (W : World) (hW : Below w.heap.size w W) (st : σ) (hJ : J st W) (hg : GW s st t) :
    Calls Tryz.prog 105 #[.agg #[.func (.func 84) #[] #[cap], .func (.func 85) #[] #[cap], .func (.func 86) #[] #[cap], .func (.func 87) #[] #[cap]], .pointer (some ⟨B, p, none⟩)] W (CloP w.heap.size J (wyW s st t) W) := by
  obtain ⟨ea, ec, rfl, hel⟩ := hl.shape
  have HC : Hid (Clo w.heap.size 84 85 86 87 cap J s) := hc
  have HL : Hid (LR w (.slice ea t.ev.length ec) t.ev) := hl
  have H5 : Hid (At5 w B p (.string t.br) (.string t.fk) (.int .i64 t.kp) (.int .i64 t.ta) (.slice ea t.ev.length ec)) := h5
  have HW : Hid (Below w.heap.size w W) := hW
  have HG : Hid (GW s st t) := hg
  have HEL : Hid (t.ev.length ≤ 9223372036854775807) := hel
  have K0' : Hid (Wk w.heap.size J W ((W.alloc (.cells #[.func (.func 84) #[] #[cap], .func (.func 85) #[] #[cap], .func (.func 86) #[] #[cap], .func (.func 87) #[] #[cap]] 126)).alloc (.cells #[.pointer (some ⟨B, p, none⟩)] 146)) W.heap.size (.func (.func 84) #[] #[cap]) (.func (.func 85) #[] #[cap]) (.func (.func 86) #[] #[cap]) (.func (.func 87) #[] #[cap]) ⟨B, p, none⟩ 146 st) := ⟨Bx.new W _ _ _ _ _ _, hc.below _ _ _ hJ (bel2 (bel1 _ _) (bel1 _ _)), Fr.below (bel2 (bel1 _ _) (bel1 _ _)) (hc.low _ _ hJ)⟩
  clear hc hl h5 hW hg hJ hel
  go_enter Tryz.func105, Tryz.ntmps105
  go_wp2_with fail
  generalize hW1 : (W.alloc (Obj.cells #[.func (.func 84) #[] #[cap], .func (.func 85) #[] #[cap], .func (.func 86) #[] #[cap], .func (.func 87) #[] #[cap]] 126)).alloc (Obj.cells #[.pointer (some ⟨B, p, none⟩)] 146) = W1
  have K0 : Hid (Wk w.heap.size J W W1 W.heap.size (.func (.func 84) #[] #[cap]) (.func (.func 85) #[] #[cap]) (.func (.func 86) #[] #[cap]) (.func (.func 87) #[] #[cap]) ⟨B, p, none⟩ 146 (st)) := by rw [← hW1]; exact K0'.out
  clear hW1 K0'
  obtain ⟨b00, b01, b02, b03, b04⟩ := K0.out.bx.cells
  have D0 : Hid (Wk w.heap.size J W W1.drew W.heap.size (.func (.func 84) #[] #[cap]) (.func (.func 85) #[] #[cap]) (.func (.func 86) #[] #[cap]) (.func (.func 87) #[] #[cap]) ⟨B, p, none⟩ 146 (_)) := K0.out.drew HC.out.below (HC.out.low _ _ K0.out.st) (by decide)
  go_region_held3 (fun w' => w'.cell? ⟨W.heap.size, 1, none⟩ = some (.func (.func 85) #[] #[cap]) ∧ w'.cell? ⟨W.heap.size + 1, 0, none⟩ = some (.pointer (some ⟨B, p, none⟩))) (go_keep) (first
    | (go_at_call 85; refine (HC.out.text st _ _ t.br _ _ D0.out.st HG.out.g1 (Pers.old H5.out.1 (HW.out.trans D0.out.fr.1))).mono ?_; rintro e w1 ⟨rfl, hj, hf⟩; have K1 : Hid (Wk w.heap.size J W w1 W.heap.size (.func (.func 84) #[] #[cap]) (.func (.func 85) #[] #[cap]) (.func (.func 86) #[] #[cap]) (.func (.func 87) #[] #[cap]) ⟨B, p, none⟩ 146 (s.T st t.br 1 64)) := D0.out.step hf hj (by decide); obtain ⟨b10, b11, b12, b13, b14⟩ := K1.out.bx.cells; clear hj hf)
    )
  clear b00 b01 b02 b03 b04 b10 b11 b12 b13 b14 D0
  go_wp2_with fail
  obtain ⟨b10, b11, b12, b13, b14⟩ := K1.out.bx.cells
  have D1 : Hid (Wk w.heap.size J W w1.drew W.heap.size (.func (.func 84) #[] #[cap]) (.func (.func 85) #[] #[cap]) (.func (.func 86) #[] #[cap]) (.func (.func 87) #[] #[cap]) ⟨B, p, none⟩ 146 (_)) := K1.out.drew HC.out.below (HC.out.low _ _ K1.out.st) (by decide)
  go_region_held3 (fun w' => w'.cell? ⟨W.heap.size, 1, none⟩ = some (.func (.func 85) #[] #[cap]) ∧ w'.cell? ⟨W.heap.size + 1, 0, none⟩ = some (.pointer (some ⟨B, p, none⟩))) (go_keep) (first
    | (go_at_call 85; refine (HC.out.text _ _ _ t.fk _ _ D1.out.st HG.out.g2 (Pers.old H5.out.2.1 (HW.out.trans D1.out.fr.1))).mono ?_; rintro e w2 ⟨rfl, hj, hf⟩; have K2 : Hid (Wk w.heap.size J W w2 W.heap.size (.func (.func 84) #[] #[cap]) (.func (.func 85) #[] #[cap]) (.func (.func 86) #[] #[cap]) (.func (.func 87) #[] #[cap]) ⟨B, p, none⟩ 146 (s.T (s.T st t.br 1 64) t.fk 0 64)) := D1.out.step hf hj (by decide); obtain ⟨b20, b21, b22, b23, b24⟩ := K2.out.bx.cells; clear hj hf)
    )
  clear b10 b11 b12 b13 b14 b20 b21 b22 b23 b24 D1
  go_wp2_with fail
  obtain ⟨b20, b21, b22, b23, b24⟩ := K2.out.bx.cells
  have D2 : Hid (Wk w.heap.size J W w2.drew W.heap.size (.func (.func 84) #[] #[cap]) (.func (.func 85) #[] #[cap]) (.func (.func 86) #[] #[cap]) (.func (.func 87) #[] #[cap]) ⟨B, p, none⟩ 146 (_)) := K2.out.drew HC.out.below (HC.out.low _ _ K2.out.st) (by decide)
  go_region_held3 (fun w' => w'.cell? ⟨W.heap.size, 0, none⟩ = some (.func (.func 84) #[] #[cap]) ∧ w'.cell? ⟨W.heap.size + 1, 0, none⟩ = some (.pointer (some ⟨B, p, none⟩))) (go_keep) (first
    | (go_at_call 84; refine (HC.out.num _ _ _ t.kp _ D2.out.st HG.out.g3 (Pers.old H5.out.2.2.1 (HW.out.trans D2.out.fr.1))).mono ?_; rintro e w3 ⟨rfl, hj, hf⟩; have K3 : Hid (Wk w.heap.size J W w3 W.heap.size (.func (.func 84) #[] #[cap]) (.func (.func 85) #[] #[cap]) (.func (.func 86) #[] #[cap]) (.func (.func 87) #[] #[cap]) ⟨B, p, none⟩ 146 (s.N (s.T (s.T st t.br 1 64) t.fk 0 64) t.kp 120)) := D2.out.step hf hj (by decide); obtain ⟨b30, b31, b32, b33, b34⟩ := K3.out.bx.cells; clear hj hf)
    )
  clear b20 b21 b22 b23 b24 b30 b31 b32 b33 b34 D2
  go_wp2_with fail
  obtain ⟨b30, b31, b32, b33, b34⟩ := K3.out.bx.cells
  have D3 : Hid (Wk w.heap.size J W w3.drew W.heap.size (.func (.func 84) #[] #[cap]) (.func (.func 85) #[] #[cap]) (.func (.func 86) #[] #[cap]) (.func (.func 87) #[] #[cap]) ⟨B, p, none⟩ 146 (_)) := K3.out.drew HC.out.below (HC.out.low _ _ K3.out.st) (by decide)
  go_region_held3 (fun w' => w'.cell? ⟨W.heap.size, 0, none⟩ = some (.func (.func 84) #[] #[cap]) ∧ w'.cell? ⟨W.heap.size + 1, 0, none⟩ = some (.pointer (some ⟨B, p, none⟩))) (go_keep) (first
    | (go_at_call 84; refine (HC.out.num _ _ _ t.ta _ D3.out.st HG.out.g4 (Pers.old H5.out.2.2.2.1 (HW.out.trans D3.out.fr.1))).mono ?_; rintro e w4 ⟨rfl, hj, hf⟩; have K4 : Hid (Wk w.heap.size J W w4 W.heap.size (.func (.func 84) #[] #[cap]) (.func (.func 85) #[] #[cap]) (.func (.func 86) #[] #[cap]) (.func (.func 87) #[] #[cap]) ⟨B, p, none⟩ 146 (s.N (s.N (s.T (s.T st t.br 1 64) t.fk 0 64) t.kp 120) t.ta 120)) := D3.out.step hf hj (by decide); obtain ⟨b40, b41, b42, b43, b44⟩ := K4.out.bx.cells; clear hj hf)
    )
  clear b30 b31 b32 b33 b34 b40 b41 b42 b43 b44 D3
  go_wp2_with fail
  obtain ⟨b40, b41, b42, b43, b44⟩ := K4.out.bx.cells
  have m4_0 := (Pers.old H5.out.2.2.2.2 (HW.out.trans K4.out.fr.1)) _ (Fr.refl _ _)
  have D4 : Hid (Wk w.heap.size J W w4.drew W.heap.size (.func (.func 84) #[] #[cap]) (.func (.func 85) #[] #[cap]) (.func (.func 86) #[] #[cap]) (.func (.func 87) #[] #[cap]) ⟨B, p, none⟩ 146 (_)) := K4.out.drew HC.out.below (HC.out.low _ _ K4.out.st) (by decide)
  go_region_held3 (fun w' => w'.cell? ⟨W.heap.size, 3, none⟩ = some (.func (.func 87) #[] #[cap]) ∧ w'.cell? ⟨W.heap.size + 1, 0, none⟩ = some (.pointer (some ⟨B, p, none⟩)) ∧ w'.cell? ⟨B, p + 4, none⟩ = some (.slice ea t.ev.length ec)) (go_keep) (first
    | (go_at_call 87; refine (HC.out.count _ _ (t.ev.length : Int) _ _ D4.out.st HG.out.g5).mono ?_; rintro e w5 ⟨rfl, hj, hf⟩; have K5 : Hid (Wk w.heap.size J W w5 W.heap.size (.func (.func 84) #[] #[cap]) (.func (.func 85) #[] #[cap]) (.func (.func 86) #[] #[cap]) (.func (.func 87) #[] #[cap]) ⟨B, p, none⟩ 146 (s.C (s.N (s.N (s.T (s.T st t.br 1 64) t.fk 0 64) t.kp 120) t.ta 120) (t.ev.length : Int) 120)) := D4.out.step hf hj (by decide); obtain ⟨b50, b51, b52, b53, b54⟩ := K5.out.bx.cells; have m5_0 := (Pers.old H5.out.2.2.2.2 (HW.out.trans K5.out.fr.1)) w5 (Fr.refl _ _); clear hj hf)
    )
  clear b40 b41 b42 b43 b44 b50 b51 b52 b53 b54 m4_0 m5_0 D4
  go_wp2_with fail
  obtain ⟨HR, HELL⟩ : Hid (∀ (i : Nat) y, t.ev[i]? = some y → ∃ B o x, ea = some ⟨B, o, none⟩ ∧ w.cell? ⟨B, o + i, none⟩ = some x ∧ Lib.HoldsBytes w x y) ∧ Hid (t.ev.length ≤ 9223372036854775807) := by
    obtain ⟨a', c', he, hl, hr⟩ := HL.out
    cases he
    exact ⟨hr, hl⟩
  clear K0 K1 K2 K3 K4
  go_loopw [43] (fun i wr => ∃ j : Nat, j ≤ t.ev.length ∧ i = .int .i64 (j : Int) ∧ Hid (Wk w.heap.size J W wr W.heap.size (.func (.func 84) #[] #[cap]) (.func (.func 85) #[] #[cap]) (.func (.func 86) #[] #[cap]) (.func (.func 87) #[] #[cap]) ⟨B, p, none⟩ 146 (wyE s (wy0 s st t) (t.ev.take j)))) (fun i _ => t.ev.length - (intOf i).toNat)
  case atStart => exact ⟨0, Nat.zero_le _, rfl, K5⟩
  case round =>
    obtain ⟨j, hj, rfl, K6⟩ := hrel
    by_cases hlt : j < t.ev.length
    · obtain ⟨Be, oe, x, rfl, hx, hh⟩ := HR.out j _ (List.getElem?_eq_getElem hlt)
      obtain ⟨xp, xn, xc, rfl⟩ : ∃ p n c, x = .slice p n c := by obtain ⟨p, c, rfl, _⟩ := hh; exact ⟨_, _, _, rfl⟩
      have HX : Hid (w.cell? ⟨Be, oe + j, none⟩ = some (.slice xp xn xc) ∧ Lib.HoldsBytes w (.slice xp xn xc) t.ev[j]) := ⟨hx, hh⟩
      have hjl : (j : Int) < (t.ev.length : Int) := by omega
      have HWr : Hid (wrap64 ((j : Int) + 1) = ((j + 1 : Nat) : Int)) := wr1 hlt HELL.out
      have HGE : Hid (s.gB (wyE s (wy0 s st t) (t.ev.take j)) t.ev[j]) := HG.out.g6 j hlt
      have HMo : Hid (wyE s (wy0 s st t) (t.ev.take (j + 1)) = s.B (wyE s (wy0 s st t) (t.ev.take j)) t.ev[j] 1 4096) := wyE_more s _ _ j hlt
      obtain ⟨b60, b61, b62, b63, b64⟩ := K6.out.bx.cells
      have m6 := (Pers.old H5.out.2.2.2.2 (HW.out.trans K6.out.fr.1)) _ (Fr.refl _ _)
      have D6 : Hid (Wk w.heap.size J W wr.drew W.heap.size (.func (.func 84) #[] #[cap]) (.func (.func 85) #[] #[cap]) (.func (.func 86) #[] #[cap]) (.func (.func 87) #[] #[cap]) ⟨B, p, none⟩ 146 (_)) := K6.out.drew HC.out.below (HC.out.low _ _ K6.out.st) (by decide)
      clear hx hh
      go_wp2_with fail
      go_region_held3 (fun w' => w'.cell? ⟨W.heap.size, 2, none⟩ = some (.func (.func 86) #[] #[cap]) ∧ w'.cell? ⟨W.heap.size + 1, 0, none⟩ = some (.pointer (some ⟨B, p, none⟩)) ∧ w'.cell? ⟨B, p + 4, none⟩ = some (.slice (some ⟨Be, oe, none⟩) t.ev.length ec)) (go_keep) (first
        | (go_at_call 86; refine (HC.out.bytes _ _ _ xp xn xc _ _ _ D6.out.st HGE.out (Pers.old HX.out.1 (HW.out.trans D6.out.fr.1)) (fun W' f => holds_below HX.out.2 ((HW.out.trans D6.out.fr.1).trans f.1))).mono ?_; rintro e w7 ⟨rfl, hj7, hf⟩; have K7 : Hid (Wk w.heap.size J W w7 W.heap.size (.func (.func 84) #[] #[cap]) (.func (.func 85) #[] #[cap]) (.func (.func 86) #[] #[cap]) (.func (.func 87) #[] #[cap]) ⟨B, p, none⟩ 146 (s.B (wyE s (wy0 s st t) (t.ev.take j)) t.ev[j] 1 4096)) := D6.out.step hf hj7 (by decide); obtain ⟨b70, b71, b72, b73, b74⟩ := K7.out.bx.cells; have m7 := (Pers.old H5.out.2.2.2.2 (HW.out.trans K7.out.fr.1)) _ (Fr.refl _ _); clear hj7 hf)
        )
      go_wp2_with fail
      refine ⟨⟨j + 1, hlt, by rw [HWr.out], ?_⟩, meas hlt HWr.out⟩
      show Hid _
      rw [HMo.out]
      exact K7
    · obtain rfl : j = t.ev.length := by omega
      go_wp2_with fail
      first | go_end0 | refine bodyPost_ret (results_none rfl _ _ _) rfl ?_
      refine ⟨rfl, ?_, K6.out.fr⟩
      have := K6.out.st
      rw [List.take_length] at this
      exact this
end Go.Proofs.YtkaaddahegkmgaaGreat
namespace Go.Proofs.YtkaaddahegkmgaaGreat
open Go.ChangeShapes Go.WideShapes Go.ChangeAt Go.RowKit
set_option maxHeartbeats 4000000 in
set_option maxRecDepth 100000 in
theorem batch_walkC {σ : Type} {J : σ → World → Prop} {s : Ways σ} (w : World) (cap : Value) (hc : Clo w.heap.size 84 85 86 87 cap J s) (b : Bt) (rp : Option Addr) (rn rc : Nat) (wa : Option Addr) (wd : Nat) (hr : Lib.HoldsBytes w (.slice rp rn rc) b.row) (hn : b.ws.length ≤ 9223372036854775807) (hw : WR w wa b.ws) (W : World) (hW : Below w.heap.size w W) (qb : Nat) (hq : Bk W qb #[.string b.key, .int .i64 b.ex, .slice rp rn rc, .slice wa b.ws.length wd] 42) (st : σ) (hJ : J st W) (hg : GB s st b) :
    Calls Tryz.prog 88 #[.agg #[.func (.func 84) #[] #[cap], .func (.func 85) #[] #[cap], .func (.func 86) #[] #[cap], .func (.func 87) #[] #[cap]], .pointer (some ⟨qb, 0, none⟩)] W (CloP w.heap.size J (byB s st b) W) := by
  have HC : Hid (Clo w.heap.size 84 85 86 87 cap J s) := hc
  have HRw : Hid (Lib.HoldsBytes w (.slice rp rn rc) b.row) := hr
  have HN : Hid (b.ws.length ≤ 9223372036854775807) := hn
  have HWR : Hid (WR w wa b.ws) := hw
  have HW : Hid (Below w.heap.size w W) := hW
  have HQ : Hid (Bk W qb #[.string b.key, .int .i64 b.ex, .slice rp rn rc, .slice wa b.ws.length wd] 42) := hq
  have HG : Hid (GB s st b) := hg
  have HWW : Hid (∀ (t : Wt) (B p : Nat) (ev : Value) (W2 : World) (st : σ), At5 w B p (.string t.br) (.string t.fk) (.int .i64 t.kp) (.int .i64 t.ta) ev → LR w ev t.ev → Below w.heap.size w W2 → J st W2 → GW s st t → Calls Tryz.prog 105 #[.agg #[.func (.func 84) #[] #[cap], .func (.func 85) #[] #[cap], .func (.func 86) #[] #[cap], .func (.func 87) #[] #[cap]], .pointer (some ⟨B, p, none⟩)] W2 (CloP w.heap.size J (wyW s st t) W2)) := fun t B p ev W2 st h5 hl hW hJ hg => write_walkC w cap hc t B p ev h5 hl W2 hW st hJ hg
  have K0' : Hid (Wk w.heap.size J W ((W.alloc (.cells #[.func (.func 84) #[] #[cap], .func (.func 85) #[] #[cap], .func (.func 86) #[] #[cap], .func (.func 87) #[] #[cap]] 126)).alloc (.cells #[.pointer (some ⟨qb, 0, none⟩)] 128)) W.heap.size (.func (.func 84) #[] #[cap]) (.func (.func 85) #[] #[cap]) (.func (.func 86) #[] #[cap]) (.func (.func 87) #[] #[cap]) ⟨qb, 0, none⟩ 128 st) := ⟨Bx.new W _ _ _ _ _ _, hc.below _ _ _ hJ (bel2 (bel1 _ _) (bel1 _ _)), Fr.below (bel2 (bel1 _ _) (bel1 _ _)) (hc.low _ _ hJ)⟩
  clear hc hr hn hw hW hq hg hJ
  go_enter Tryz.func88, Tryz.ntmps88
  go_wp2_with fail
  generalize hW1 : (W.alloc (Obj.cells #[.func (.func 84) #[] #[cap], .func (.func 85) #[] #[cap], .func (.func 86) #[] #[cap], .func (.func 87) #[] #[cap]] 126)).alloc (Obj.cells #[.pointer (some ⟨qb, 0, none⟩)] 128) = W1
  have K0 : Hid (Wk w.heap.size J W W1 W.heap.size (.func (.func 84) #[] #[cap]) (.func (.func 85) #[] #[cap]) (.func (.func 86) #[] #[cap]) (.func (.func 87) #[] #[cap]) ⟨qb, 0, none⟩ 128 (st)) := by rw [← hW1]; exact K0'.out
  clear hW1 K0'
  obtain ⟨b00, b01, b02, b03, b04⟩ := K0.out.bx.cells
  have D0 : Hid (Wk w.heap.size J W W1.drew W.heap.size (.func (.func 84) #[] #[cap]) (.func (.func 85) #[] #[cap]) (.func (.func 86) #[] #[cap]) (.func (.func 87) #[] #[cap]) ⟨qb, 0, none⟩ 128 (_)) := K0.out.drew HC.out.below (HC.out.low _ _ K0.out.st) (by decide)
  go_region_held3 (fun w' => w'.cell? ⟨W.heap.size, 1, none⟩ = some (.func (.func 85) #[] #[cap]) ∧ w'.cell? ⟨W.heap.size + 1, 0, none⟩ = some (.pointer (some ⟨qb, 0, none⟩))) (go_keep) (first
    | (go_at_call 85; refine (HC.out.text st _ _ b.key _ _ D0.out.st HG.out.g1 (Pers.bk (D0.out.fr.bk HQ.out (by decide)) (by decide) (i := 0) rfl)).mono ?_; rintro e w1 ⟨rfl, hj, hf⟩; have K1 : Hid (Wk w.heap.size J W w1 W.heap.size (.func (.func 84) #[] #[cap]) (.func (.func 85) #[] #[cap]) (.func (.func 86) #[] #[cap]) (.func (.func 87) #[] #[cap]) ⟨qb, 0, none⟩ 128 (s.T st b.key 1 64)) := D0.out.step hf hj (by decide); obtain ⟨b10, b11, b12, b13, b14⟩ := K1.out.bx.cells; clear hj hf)
    )
  clear b00 b01 b02 b03 b04 b10 b11 b12 b13 b14 D0
  go_wp2_with fail
  obtain ⟨b10, b11, b12, b13, b14⟩ := K1.out.bx.cells
  have D1 : Hid (Wk w.heap.size J W w1.drew W.heap.size (.func (.func 84) #[] #[cap]) (.func (.func 85) #[] #[cap]) (.func (.func 86) #[] #[cap]) (.func (.func 87) #[] #[cap]) ⟨qb, 0, none⟩ 128 (_)) := K1.out.drew HC.out.below (HC.out.low _ _ K1.out.st) (by decide)
  go_region_held3 (fun w' => w'.cell? ⟨W.heap.size, 0, none⟩ = some (.func (.func 84) #[] #[cap]) ∧ w'.cell? ⟨W.heap.size + 1, 0, none⟩ = some (.pointer (some ⟨qb, 0, none⟩))) (go_keep) (first
    | (go_at_call 84; refine (HC.out.num _ _ _ b.ex _ D1.out.st HG.out.g2 (Pers.bk (D1.out.fr.bk HQ.out (by decide)) (by decide) (i := 1) rfl)).mono ?_; rintro e w2 ⟨rfl, hj, hf⟩; have K2 : Hid (Wk w.heap.size J W w2 W.heap.size (.func (.func 84) #[] #[cap]) (.func (.func 85) #[] #[cap]) (.func (.func 86) #[] #[cap]) (.func (.func 87) #[] #[cap]) ⟨qb, 0, none⟩ 128 (s.N (s.T st b.key 1 64) b.ex 2147483648)) := D1.out.step hf hj (by decide); obtain ⟨b20, b21, b22, b23, b24⟩ := K2.out.bx.cells; clear hj hf)
    )
  clear b10 b11 b12 b13 b14 b20 b21 b22 b23 b24 D1
  go_wp2_with fail
  obtain ⟨b20, b21, b22, b23, b24⟩ := K2.out.bx.cells
  have D2 : Hid (Wk w.heap.size J W w2.drew W.heap.size (.func (.func 84) #[] #[cap]) (.func (.func 85) #[] #[cap]) (.func (.func 86) #[] #[cap]) (.func (.func 87) #[] #[cap]) ⟨qb, 0, none⟩ 128 (_)) := K2.out.drew HC.out.below (HC.out.low _ _ K2.out.st) (by decide)
  go_region_held3 (fun w' => w'.cell? ⟨W.heap.size, 2, none⟩ = some (.func (.func 86) #[] #[cap]) ∧ w'.cell? ⟨W.heap.size + 1, 0, none⟩ = some (.pointer (some ⟨qb, 0, none⟩))) (go_keep) (first
    | (go_at_call 86; refine (HC.out.bytes _ _ _ rp rn rc b.row _ _ D2.out.st HG.out.g3 (Pers.bk (D2.out.fr.bk HQ.out (by decide)) (by decide) (i := 2) rfl) (fun W' f => holds_below HRw.out ((HW.out.trans D2.out.fr.1).trans f.1))).mono ?_; rintro e w3 ⟨rfl, hj, hf⟩; have K3 : Hid (Wk w.heap.size J W w3 W.heap.size (.func (.func 84) #[] #[cap]) (.func (.func 85) #[] #[cap]) (.func (.func 86) #[] #[cap]) (.func (.func 87) #[] #[cap]) ⟨qb, 0, none⟩ 128 (s.B (s.N (s.T st b.key 1 64) b.ex 2147483648) b.row 0 524288)) := D2.out.step hf hj (by decide); obtain ⟨b30, b31, b32, b33, b34⟩ := K3.out.bx.cells; clear hj hf)
    )
  clear b20 b21 b22 b23 b24 b30 b31 b32 b33 b34 D2
  go_wp2_with fail
  obtain ⟨b30, b31, b32, b33, b34⟩ := K3.out.bx.cells
  have m3 : _ = some (Value.slice wa b.ws.length wd) := (K3.out.fr.bk HQ.out (by decide)).cell 3
  have D3 : Hid (Wk w.heap.size J W w3.drew W.heap.size (.func (.func 84) #[] #[cap]) (.func (.func 85) #[] #[cap]) (.func (.func 86) #[] #[cap]) (.func (.func 87) #[] #[cap]) ⟨qb, 0, none⟩ 128 (_)) := K3.out.drew HC.out.below (HC.out.low _ _ K3.out.st) (by decide)
  go_region_held3 (fun w' => w'.cell? ⟨W.heap.size, 3, none⟩ = some (.func (.func 87) #[] #[cap]) ∧ w'.cell? ⟨W.heap.size + 1, 0, none⟩ = some (.pointer (some ⟨qb, 0, none⟩)) ∧ w'.cell? ⟨qb, 3, none⟩ = some (.slice wa b.ws.length wd)) (go_keep) (first
    | (go_at_call 87; refine (HC.out.count _ _ (b.ws.length : Int) _ _ D3.out.st HG.out.g4).mono ?_; rintro e w4 ⟨rfl, hj, hf⟩; have K4 : Hid (Wk w.heap.size J W w4 W.heap.size (.func (.func 84) #[] #[cap]) (.func (.func 85) #[] #[cap]) (.func (.func 86) #[] #[cap]) (.func (.func 87) #[] #[cap]) ⟨qb, 0, none⟩ 128 (s.C (s.B (s.N (s.T st b.key 1 64) b.ex 2147483648) b.row 0 524288) (b.ws.length : Int) 4)) := D3.out.step hf hj (by decide); obtain ⟨b40, b41, b42, b43, b44⟩ := K4.out.bx.cells; have m4 : _ = some (Value.slice wa b.ws.length wd) := (K4.out.fr.bk HQ.out (by decide)).cell 3; clear hj hf)
    )
  clear b30 b31 b32 b33 b34 b40 b41 b42 b43 b44 D3 m3
  go_wp2_with fail
  clear K0 K1 K2 K3
  go_loopw [37] (fun i wr => ∃ j : Nat, j ≤ b.ws.length ∧ i = .int .i64 (j : Int) ∧ Hid (Wk w.heap.size J W wr W.heap.size (.func (.func 84) #[] #[cap]) (.func (.func 85) #[] #[cap]) (.func (.func 86) #[] #[cap]) (.func (.func 87) #[] #[cap]) ⟨qb, 0, none⟩ 128 (byW s (by0 s st b) (b.ws.take j)))) (fun i _ => b.ws.length - (intOf i).toNat)
  case atStart => exact ⟨0, Nat.zero_le _, rfl, K4⟩
  case round =>
    obtain ⟨j, hj, rfl, K6⟩ := hrel
    by_cases hlt : j < b.ws.length
    · obtain ⟨Be, oe, ev, rfl, h5, hl⟩ := HWR.out j _ (List.getElem?_eq_getElem hlt)
      have HX : Hid (At5 w Be (oe + j * 5) (.string b.ws[j].br) (.string b.ws[j].fk) (.int .i64 b.ws[j].kp) (.int .i64 b.ws[j].ta) ev ∧ LR w ev b.ws[j].ev) := ⟨h5, hl⟩
      have hjl : (j : Int) < (b.ws.length : Int) := by omega
      have HWr : Hid (wrap64 ((j : Int) + 1) = ((j + 1 : Nat) : Int)) := wr1 hlt HN.out
      have HGE : Hid (GW s (byW s (by0 s st b) (b.ws.take j)) b.ws[j]) := HG.out.g5 j hlt
      have HMo : Hid (byW s (by0 s st b) (b.ws.take (j + 1)) = wyW s (byW s (by0 s st b) (b.ws.take j)) b.ws[j]) := byW_more s _ _ j hlt
      obtain ⟨b60, b61, b62, b63, b64⟩ := K6.out.bx.cells
      have m6 : _ = some (Value.slice (some ⟨Be, oe, none⟩) b.ws.length wd) := (K6.out.fr.bk HQ.out (by decide)).cell 3
      have D6 : Hid (Wk w.heap.size J W wr.drew W.heap.size (.func (.func 84) #[] #[cap]) (.func (.func 85) #[] #[cap]) (.func (.func 86) #[] #[cap]) (.func (.func 87) #[] #[cap]) ⟨qb, 0, none⟩ 128 (_)) := K6.out.drew HC.out.below (HC.out.low _ _ K6.out.st) (by decide)
      clear h5 hl
      go_wp2_with fail
      go_region_held3 (fun w' => w'.cell? ⟨W.heap.size, 0, none⟩ = some (.func (.func 84) #[] #[cap]) ∧ w'.cell? ⟨W.heap.size, 1, none⟩ = some (.func (.func 85) #[] #[cap]) ∧ w'.cell? ⟨W.heap.size, 2, none⟩ = some (.func (.func 86) #[] #[cap]) ∧ w'.cell? ⟨W.heap.size, 3, none⟩ = some (.func (.func 87) #[] #[cap]) ∧ w'.cell? ⟨W.heap.size + 1, 0, none⟩ = some (.pointer (some ⟨qb, 0, none⟩)) ∧ w'.cell? ⟨qb, 3, none⟩ = some (.slice (some ⟨Be, oe, none⟩) b.ws.length wd)) (go_keep) (first
        | (go_at_call 105; refine (HWW.out b.ws[j] Be (oe + j * 5) ev _ _ HX.out.1 HX.out.2 (HW.out.trans D6.out.fr.1) D6.out.st HGE.out).mono ?_; rintro e w7 ⟨rfl, hj7, hf⟩; have K7 : Hid (Wk w.heap.size J W w7 W.heap.size (.func (.func 84) #[] #[cap]) (.func (.func 85) #[] #[cap]) (.func (.func 86) #[] #[cap]) (.func (.func 87) #[] #[cap]) ⟨qb, 0, none⟩ 128 (wyW s (byW s (by0 s st b) (b.ws.take j)) b.ws[j])) := D6.out.step hf hj7 (by decide); obtain ⟨b70, b71, b72, b73, b74⟩ := K7.out.bx.cells; have m7 : _ = some (Value.slice (some ⟨Be, oe, none⟩) b.ws.length wd) := (K7.out.fr.bk HQ.out (by decide)).cell 3; clear hj7 hf)
        )
      go_wp2_with fail
      refine ⟨⟨j + 1, hlt, by rw [HWr.out], ?_⟩, meas hlt HWr.out⟩
      show Hid _
      rw [HMo.out]
      exact K7
    · obtain rfl : j = b.ws.length := by omega
      go_wp2_with fail
      first | go_end0 | refine bodyPost_ret (results_none rfl _ _ _) rfl ?_
      refine ⟨rfl, ?_, K6.out.fr⟩
      have := K6.out.st
      rw [List.take_length] at this
      exact this
end Go.Proofs.YtkaaddahegkmgaaGreat
namespace Go.Proofs.YtkaaddahegkmgaaGreat
open Go.ChangeShapes Go.WideShapes Go.ChangeAt Go.RowKit
/-- What Check's closures make of 'right'. -/
def sC : Ways Bool where
  N := fun r n most => hd r n 0 most
  T := fun r x least most => hd r (x.size : Int) least most
  B := fun r l least most => hd r (l.length : Int) least most
  C := fun r n most => hd r n 0 most
  gN := fun _ _ => True
  gT := fun _ _ => True
  gB := fun _ _ => True
theorem clo_check (lo gr gh : Nat) : Clo lo 84 85 86 87 (.pointer (some ⟨gh, 0, none⟩)) (JC lo gr gh) sC where
  below := fun _ _ _ h hb => h.below hb
  low := fun _ _ h => h.low
  num := fun st W a n most h _ hp => cnum_calls lo gr gh st W a n most h hp
  text := fun st W a x least most h _ hp => ctext_calls lo gr gh st W a x least most h hp
  bytes := fun st W a p n c l least most h _ hp hh => by
    obtain ⟨p', c', he, _⟩ := hh W (Fr.refl _ _)
    cases he
    exact cbytes_calls lo gr gh st W a p l.length c least most h hp
  count := fun st W n most fv h _ => ccount_calls lo gr gh st W n most fv h
theorem gw_check (st : Bool) (t : Wt) : GW sC st t := ⟨trivial, trivial, trivial, trivial, trivial, fun _ _ => trivial⟩
theorem gb_check (st : Bool) (b : Bt) : GB sC st b := ⟨trivial, trivial, trivial, trivial, fun _ _ => gw_check _ _⟩
theorem tl_inj {s t : ByteArray} (h : s.toList = t.toList) : s = t := by
  rw [Lib.toList_data, Lib.toList_data] at h
  cases s
  cases t
  simpa using h
theorem tl_nil {s : ByteArray} (h : s.toList = []) : s = ⟨#[]⟩ := by
  have h2 : s.toList = (⟨#[]⟩ : ByteArray).toList := by rw [h, Lib.toList_data]
  exact tl_inj h2
/-- Does a write tell of both? -/
def mixed (t : Wt) : Bool := if t.fk.size = 0 then t.kp != 0 else t.ta != 0
/-- May a batch be, as Check says it? -/
def mayB (b : Bt) : Bool := byB sC true b && !(b.ws.any mixed)
set_option maxHeartbeats 1000000 in
theorem mixed_calls (t : Wt) (e : Value) (w : World) : Calls Tryz.prog 90 #[.agg #[.string t.br, .string t.fk, .int .i64 t.kp, .int .i64 t.ta, e]] w fun x w' => x = .returned (.bool (mixed t)) ∧ Below w.heap.size w w' := by
  obtain ⟨br, fk, kp, ta, ev⟩ := t
  dsimp only
  unfold mixed
  dsimp only
  by_cases h0 : fk.size = 0
  · rw [if_pos h0]
    obtain rfl : fk = ⟨#[]⟩ := by
      cases fk with
      | mk d => simp only [ByteArray.size] at h0; rw [Array.eq_empty_of_size_eq_zero h0]
    clear h0
    go_enter Tryz.func90, Tryz.ntmps90
    go_wp2
    go_ret
    exact ⟨rfl, bel1 _ _⟩
  · rw [if_neg h0]
    have hs : fk.toList.isEmpty = false := by
      cases he : fk.toList with
      | nil => exact absurd (by rw [tl_nil he]; rfl) h0
      | cons _ _ => rfl
    go_enter Tryz.func90, Tryz.ntmps90
    go_wp2
    go_ret
    exact ⟨rfl, bel1 _ _⟩
set_option maxHeartbeats 1000000 in
theorem index_calls (a : Option Addr) (c : Nat) (ws : List Wt) (w : World) (hn : ws.length ≤ 9223372036854775807) (hw : WR w a ws) :
    Calls Tryz.prog 106 #[.slice a ws.length c, .func (.func 90) #[] #[]] w fun x w' => (∃ i : Int, x = .returned (.int .i64 i) ∧ (decide (0 ≤ i) = ws.any mixed)) ∧ Below w.heap.size w w' := by
  have HW : Hid (WR w a ws) := hw
  have HN : Hid (ws.length ≤ 9223372036854775807) := hn
  clear hw hn
  go_enter Tryz.func106, Tryz.ntmps106
  go_wp2_with fail
  go_loopw [8] (fun i wr => ∃ j : Nat, j ≤ ws.length ∧ i = .int .i64 (j : Int) ∧ Hid ((ws.take j).any mixed = false) ∧ Hid (Below w.heap.size w wr)) (fun i _ => ws.length - (intOf i).toNat)
  case atStart => exact ⟨0, Nat.zero_le _, rfl, rfl, Below.refl _ _⟩
  case round =>
    obtain ⟨j, hj, rfl, HE, HB⟩ := hrel
    by_cases hlt : j < ws.length
    · obtain ⟨B, o, e, rfl, h5, hl⟩ := HW.out j _ (List.getElem?_eq_getElem hlt)
      obtain ⟨e0, e1, e2, e3, e4⟩ := h5.below HB.out
      obtain ⟨ea, ec, rfl, _⟩ := hl.shape
      have HW : Hid (wrap64 ((j : Int) + 1) = ((j + 1 : Nat) : Int)) := wr1 hlt HN.out
      have hjl : (j : Int) < (ws.length : Int) := by omega
      have MC : Hid (Calls Tryz.prog 90 _ wr _) := mixed_calls ws[j] (.slice ea ws[j].ev.length ec) wr
      have HT : Hid ((ws.take (j + 1)).any mixed = ((ws.take j).any mixed || mixed ws[j])) := by
        show _ = _
        rw [List.take_add_one, List.getElem?_eq_getElem hlt, List.any_append]
        simp
      have HA : Hid (mixed ws[j] = true → ws.any mixed = true) := fun h => List.any_eq_true.2 ⟨_, List.getElem_mem hlt, h⟩
      clear h5 hl
      generalize mixed ws[j] = q at MC HT HA
      go_wp2_with fail
      refine MC.out.mono ?_
      rintro x w1 ⟨rfl, hb1⟩
      have HB1 : Hid (Below w.heap.size w w1) := bel2 HB.out hb1
      clear hb1
      cases q with
      | true =>
        go_wp2_with fail
        go_ret
        exact ⟨⟨_, rfl, by rw [HA.out (by trivial)]; exact decide_eq_true (by omega)⟩, HB1.out⟩
      | false =>
        go_wp2_with fail
        exact ⟨⟨j + 1, hlt, by rw [HW.out], (by show _ = _; rw [HT.out, HE.out]; rfl), HB1⟩, meas hlt HW.out⟩
    · obtain rfl : j = ws.length := by omega
      go_wp2_with fail
      go_ret
      refine ⟨⟨-1, rfl, ?_⟩, HB.out⟩
      have := HE.out
      rw [List.take_length] at this
      rw [this]
      rfl
set_option maxHeartbeats 1000000 in
theorem contains_calls (a : Option Addr) (c : Nat) (ws : List Wt) (w : World) (hn : ws.length ≤ 9223372036854775807) (hw : WR w a ws) :
    Calls Tryz.prog 89 #[.slice a ws.length c, .func (.func 90) #[] #[]] w fun x w' => x = .returned (.bool (ws.any mixed)) ∧ Below w.heap.size w w' := by
  have IC : Hid (Calls Tryz.prog 106 _ w _) := index_calls a c ws w hn hw
  generalize ws.any mixed = q at IC ⊢
  clear hn hw
  go_enter Tryz.func89, Tryz.ntmps89
  go_wp2_with fail
  refine IC.out.mono ?_
  rintro x w1 ⟨⟨i, rfl, hi⟩, hb1⟩
  have HB1 : Hid (Below w.heap.size w w1) := hb1
  clear hb1
  go_wp2_with fail
  go_ret
  exact ⟨rfl, HB1.out⟩
theorem jc_new (w : World) (cs : Array Value) : JC w.heap.size (w.heap.size + 1) (w.heap.size + 1 + 1) true (((w.alloc (.cells cs 42)).alloc (.cells #[.bool true] 4)).alloc (.cells #[.func (.func 83) #[] #[.pointer (some ⟨w.heap.size + 1, 0, none⟩)]] 116)) ∧ Bk (((w.alloc (.cells cs 42)).alloc (.cells #[.bool true] 4)).alloc (.cells #[.func (.func 83) #[] #[.pointer (some ⟨w.heap.size + 1, 0, none⟩)]] 116)) w.heap.size cs 42 ∧ Below w.heap.size w (((w.alloc (.cells cs 42)).alloc (.cells #[.bool true] 4)).alloc (.cells #[.func (.func 83) #[] #[.pointer (some ⟨w.heap.size + 1, 0, none⟩)]] 116)) := by
  have h1 : Bk ((w.alloc (.cells cs 42)).alloc (.cells #[.bool true] 4)) (w.heap.size + 1) #[.bool true] 4 := by
    have := Bk.new (w.alloc (.cells cs 42)) #[.bool true] 4
    simpa using this
  have h2 := Bk.new ((w.alloc (.cells cs 42)).alloc (.cells #[.bool true] 4)) #[.func (.func 83) #[] #[.pointer (some ⟨w.heap.size + 1, 0, none⟩)]] 116
  have hz : ((w.alloc (.cells cs 42)).alloc (.cells #[.bool true] 4)).heap.size = w.heap.size + 1 + 1 := by simp
  rw [hz] at h2
  refine ⟨⟨h1.below (bel1 _ _), h2, by omega, by simp; omega⟩, (Bk.new w cs 42).below (bel2 (bel1 _ _) (bel1 _ _)), bel2 (bel2 (bel1 _ _) (bel1 _ _)) (bel1 _ _)⟩
/-- What Check answers. -/
def ckE (b : Bt) : Int := if mayB b = true then 0 else 1
set_option maxHeartbeats 2000000 in
set_option maxRecDepth 100000 in
theorem check_calls (v : Value) (b : Bt) (w : World) (h : BIs w v b) : Calls Tryz.prog 64 #[v] w fun x w' => x = .returned (.int .i64 (ckE b)) ∧ Below w.heap.size w w' := by
  obtain ⟨rp, rn, rc, wa, wd, rfl, hr, hn, hw⟩ := h
  have HCO : Hid (∀ W, Below w.heap.size w W → Calls Tryz.prog 89 #[.slice wa b.ws.length wd, .func (.func 90) #[] #[]] W fun x w' => x = .returned (.bool (b.ws.any mixed)) ∧ Below W.heap.size W w') := fun W hB => contains_calls wa wd b.ws W hn (hw.below hB)
  have HBW : Hid (∀ W gr gh qb, Below w.heap.size w W → Bk W qb #[.string b.key, .int .i64 b.ex, .slice rp rn rc, .slice wa b.ws.length wd] 42 → JC w.heap.size gr gh true W → Calls Tryz.prog 88 #[.agg #[.func (.func 84) #[] #[.pointer (some ⟨gh, 0, none⟩)], .func (.func 85) #[] #[.pointer (some ⟨gh, 0, none⟩)], .func (.func 86) #[] #[.pointer (some ⟨gh, 0, none⟩)], .func (.func 87) #[] #[.pointer (some ⟨gh, 0, none⟩)]], .pointer (some ⟨qb, 0, none⟩)] W (CloP w.heap.size (JC w.heap.size gr gh) (byB sC true b) W)) := fun W gr gh qb hB hq hJ => batch_walkC w _ (clo_check w.heap.size gr gh) b rp rn rc wa wd hr hn hw W hB qb hq true hJ (gb_check _ _)
  have HM : Hid (mayB b = (byB sC true b && !(b.ws.any mixed))) := rfl
  obtain ⟨ER, hER⟩ : ∃ e, e = ckE b := ⟨_, rfl⟩
  rw [← hER]
  have HER : Hid (ER = if mayB b = true then 0 else 1) := hER
  clear hER
  generalize mayB b = mb at HM HER
  generalize byB sC true b = R at HBW HM
  generalize b.ws.any mixed = X at HCO HM
  clear hr hn hw
  go_enter Tryz.func64, Tryz.ntmps64
  go_wp2_with fail
  obtain ⟨j0, q0, bl0⟩ := jc_new w #[.string b.key, .int .i64 b.ex, .slice rp rn rc, .slice wa b.ws.length wd]
  refine (HBW.out _ (w.heap.size + 1) (w.heap.size + 1 + 1) w.heap.size bl0 q0 j0).mono ?_
  rintro e w1 ⟨rfl, hj, hf⟩
  have c0 : w1.cell? ⟨w.heap.size + 1, 0, none⟩ = some (Value.bool R) := hj.right.cell 0
  have c3 : w1.cell? ⟨w.heap.size, 3, none⟩ = some (Value.slice wa b.ws.length wd) := (hf.bk q0 (by decide)).cell 3
  have HB1 : Hid (Below w.heap.size w w1) := bl0.trans hf.1
  have CC : Hid (Calls Tryz.prog 89 _ w1 _) := HCO.out w1 HB1.out
  clear j0 q0 bl0 hj hf HBW HCO
  cases R with
  | false =>
    have hm : mb = false := HM.out
    subst hm
    obtain rfl : ER = 1 := HER.out
    go_wp2_with fail
    go_ret
    exact ⟨rfl, HB1.out⟩
  | true =>
    go_wp2_with fail
    refine CC.out.mono ?_
    rintro e w2 ⟨rfl, hb2⟩
    have HB2 : Hid (Below w.heap.size w w2) := bel2 HB1.out hb2
    clear hb2
    cases X with
    | false =>
      have hm : mb = true := HM.out
      subst hm
      obtain rfl : ER = 0 := HER.out
      go_wp2_with fail
      go_ret
      exact ⟨rfl, HB2.out⟩
    | true =>
      have hm : mb = false := HM.out
      subst hm
      obtain rfl : ER = 1 := HER.out
      go_wp2_with fail
      go_ret
      exact ⟨rfl, HB2.out⟩
end Go.Proofs.YtkaaddahegkmgaaGreat
