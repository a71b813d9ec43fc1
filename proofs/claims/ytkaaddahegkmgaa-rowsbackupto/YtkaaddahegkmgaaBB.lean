/- The contracts of the closures of Check. -/
import Derived.Test.YtkaaddahegkmgaaBA
import Derived.Deep.RegionHeld3
import Derived.Deep.DeepCutAuto
namespace Go.Proofs.Ytkaaddahegkmgaa
open Go.ChangeShapes Go.WideShapes Go.ChangeAt Go.RowKit
/-- Check's two variables: right, and hold. -/
structure JC (lo gr gh : Nat) (r : Bool) (W : World) : Prop where
  right : Bk W gr #[.bool r] 4
  hold : Bk W gh #[.func (.func 75) #[] #[.pointer (some ⟨gr, 0, none⟩)]] 109
  lor : lo ≤ gr
  low : lo ≤ W.heap.size
def CkP (lo gr gh : Nat) (r : Bool) (W : World) (e : Ending) (W' : World) : Prop := e = .returned (.tuple #[]) ∧ JC lo gr gh r W' ∧ Fr lo W W'
theorem JC.below {lo gr gh : Nat} {r : Bool} {W W' : World} (h : JC lo gr gh r W) (hb : Below W.heap.size W W') : JC lo gr gh r W' :=
  ⟨h.right.below hb, h.hold.below hb, h.lor, Nat.le_trans h.low hb.size⟩
theorem JC.put {lo gr gh : Nat} {r : Bool} {W : World} (h : JC lo gr gh r W) (q : Bool) : JC lo gr gh q (W.setCell ⟨gr, 0, none⟩ (.bool q)) ∧ Fr lo W (W.setCell ⟨gr, 0, none⟩ (.bool q)) := by
  have k : KT (fun t => t ≠ 4) W (W.setCell ⟨gr, 0, none⟩ (.bool q)) := KT.set h.right 0 _
  exact ⟨⟨h.right.set 0 (.bool q), h.hold.kt k (by decide), h.lor, by have := h.low; simpa [World.setCell] using this⟩, (KB.setCell gr W 0 _).below h.lor h.low, k.mono (fun t ht => ht.1)⟩
def hd (r : Bool) (n least most : Int) : Bool := r && (decide (least ≤ n) && decide (n ≤ most))
set_option maxHeartbeats 1000000 in
theorem hold_calls (lo gr gh : Nat) (r : Bool) (W : World) (n least most : Int) (h : JC lo gr gh r W) :
    Calls Try.prog 75 #[.int .i64 n, .int .i64 least, .int .i64 most, .pointer (some ⟨gr, 0, none⟩)] W (CkP lo gr gh (hd r n least most) W) := by
  have H : Hid (JC lo gr gh r W) := h
  have c0 := h.right.cell 0
  have f0 := h.right.frozen 0
  clear h
  simp only [List.getElem?_toArray, List.getElem?_cons_zero] at c0
  obtain ⟨q, hq⟩ : ∃ q, q = hd r n least most := ⟨_, rfl⟩
  have HQ : Hid (q = hd r n least most) := hq
  rw [← hq]
  clear hq
  cases r with
  | false =>
    have e : q = false := HQ.out
    subst e
    go_enter Try.func75, Try.ntmps75
    go_wp2
    first | go_end0 | refine bodyPost_ret (results_none rfl _ _ _) rfl ?_
    exact ⟨rfl, (H.out.put false).1, (H.out.put false).2⟩
  | true =>
    by_cases h1 : least ≤ n
    · by_cases h2 : n ≤ most
      · have e : q = true := by rw [HQ.out]; simp [hd, h1, h2]
        subst e
        go_enter Try.func75, Try.ntmps75
        go_wp2
        first | go_end0 | refine bodyPost_ret (results_none rfl _ _ _) rfl ?_
        exact ⟨rfl, (H.out.put true).1, (H.out.put true).2⟩
      · have e : q = false := by rw [HQ.out]; simp [hd, h2]
        subst e
        go_enter Try.func75, Try.ntmps75
        go_wp2
        first | go_end0 | refine bodyPost_ret (results_none rfl _ _ _) rfl ?_
        exact ⟨rfl, (H.out.put false).1, (H.out.put false).2⟩
    · have e : q = false := by rw [HQ.out]; simp [hd, h1]
      subst e
      go_enter Try.func75, Try.ntmps75
      go_wp2
      first | go_end0 | refine bodyPost_ret (results_none rfl _ _ _) rfl ?_
      exact ⟨rfl, (H.out.put false).1, (H.out.put false).2⟩
/-- The cell a holds v, whatever is done to the variables of Check, or of Encode. -/
def Pers (lo : Nat) (W : World) (a : Addr) (v : Value) : Prop := ∀ W', Fr lo W W' → W'.cell? a = some v
theorem Pers.fr {lo : Nat} {W W' : World} {a : Addr} {v : Value} (h : Pers lo W a v) (f : Fr lo W W') : Pers lo W' a v := fun W2 k => h W2 (f.trans k)
theorem Pers.now {lo : Nat} {W : World} {a : Addr} {v : Value} (h : Pers lo W a v) : W.cell? a = some v := h W (Fr.refl _ _)
set_option maxHeartbeats 1000000 in
theorem cnum_calls (lo gr gh : Nat) (r : Bool) (W : World) (a : Addr) (n most : Int) (h : JC lo gr gh r W) (hp : Pers lo W a (.int .i64 n)) :
    Calls Try.prog 76 #[.pointer (some a), .int .i64 most, .pointer (some ⟨gh, 0, none⟩)] W (CkP lo gr gh (hd r n 0 most) W) := by
  have c0 := h.hold.cell 0
  simp only [List.getElem?_toArray, List.getElem?_cons_zero] at c0
  have a0 := hp.now
  have HP : Hid (Pers lo W a (.int .i64 n)) := hp
  have HC : Hid (∀ W', W' = W.drew → Calls Try.prog 75 #[.int .i64 n, .int .i64 0, .int .i64 most, .pointer (some ⟨gr, 0, none⟩)] W' (CkP lo gr gh (hd r n 0 most) W')) := fun W' e => by subst e; exact hold_calls lo gr gh r _ _ _ _ (h.below (Below.refl _ W).drew)
  have HF : Hid (Fr lo W W.drew) := Fr.below (Below.refl _ W).drew h.low
  clear h hp
  go_enter Try.func76, Try.ntmps76
  go_wp2_with fail
  go_region_held3 (fun w' => w'.cell? ⟨gh, 0, none⟩ = some (.func (.func 75) #[] #[.pointer (some ⟨gr, 0, none⟩)]) ∧ w'.cell? a = some (.int .i64 n)) (go_keep) (first
    | (go_at_call 75; refine (HC.out _ rfl).mono ?_; rintro e w1 ⟨rfl, hj, hf⟩; have HJ : Hid (JC lo gr gh _ w1) := hj; have HF1 : Hid (Fr lo _ w1) := HF.out.trans hf; have c1 := hj.hold.cell 0; have a1 := HP.out w1 HF1.out; simp only [List.getElem?_toArray, List.getElem?_cons_zero] at c1; clear hj hf)
    )
  go_wp2_with fail
  first | go_end0 | refine bodyPost_ret (results_none rfl _ _ _) rfl ?_
  exact ⟨rfl, HJ.out, HF1.out⟩
set_option maxHeartbeats 1000000 in
theorem ctext_calls (lo gr gh : Nat) (r : Bool) (W : World) (a : Addr) (s : ByteArray) (least most : Int) (h : JC lo gr gh r W) (hp : Pers lo W a (.string s)) :
    Calls Try.prog 77 #[.pointer (some a), .int .i64 least, .int .i64 most, .pointer (some ⟨gh, 0, none⟩)] W (CkP lo gr gh (hd r (s.size : Int) least most) W) := by
  have c0 := h.hold.cell 0
  simp only [List.getElem?_toArray, List.getElem?_cons_zero] at c0
  have a0 := hp.now
  have HP : Hid (Pers lo W a (.string s)) := hp
  have HC : Hid (∀ W', W' = W.drew → Calls Try.prog 75 #[.int .i64 (s.size : Int), .int .i64 least, .int .i64 most, .pointer (some ⟨gr, 0, none⟩)] W' (CkP lo gr gh (hd r (s.size : Int) least most) W')) := fun W' e => by subst e; exact hold_calls lo gr gh r _ _ _ _ (h.below (Below.refl _ W).drew)
  have HF : Hid (Fr lo W W.drew) := Fr.below (Below.refl _ W).drew h.low
  clear h hp
  go_enter Try.func77, Try.ntmps77
  go_wp2_with fail
  go_region_held3 (fun w' => w'.cell? ⟨gh, 0, none⟩ = some (.func (.func 75) #[] #[.pointer (some ⟨gr, 0, none⟩)]) ∧ w'.cell? a = some (.string s)) (go_keep) (first
    | (go_at_call 75; refine (HC.out _ rfl).mono ?_; rintro e w1 ⟨rfl, hj, hf⟩; have HJ : Hid (JC lo gr gh _ w1) := hj; have HF1 : Hid (Fr lo _ w1) := HF.out.trans hf; have c1 := hj.hold.cell 0; have a1 := HP.out w1 HF1.out; simp only [List.getElem?_toArray, List.getElem?_cons_zero] at c1; clear hj hf)
    )
  go_wp2_with fail
  first | go_end0 | refine bodyPost_ret (results_none rfl _ _ _) rfl ?_
  exact ⟨rfl, HJ.out, HF1.out⟩
set_option maxHeartbeats 1000000 in
theorem cbytes_calls (lo gr gh : Nat) (r : Bool) (W : World) (a : Addr) (p : Option Addr) (n c : Nat) (least most : Int) (h : JC lo gr gh r W) (hp : Pers lo W a (.slice p n c)) :
    Calls Try.prog 78 #[.pointer (some a), .int .i64 least, .int .i64 most, .pointer (some ⟨gh, 0, none⟩)] W (CkP lo gr gh (hd r (n : Int) least most) W) := by
  have c0 := h.hold.cell 0
  simp only [List.getElem?_toArray, List.getElem?_cons_zero] at c0
  have a0 := hp.now
  have HP : Hid (Pers lo W a (.slice p n c)) := hp
  have HC : Hid (∀ W', W' = W.drew → Calls Try.prog 75 #[.int .i64 (n : Int), .int .i64 least, .int .i64 most, .pointer (some ⟨gr, 0, none⟩)] W' (CkP lo gr gh (hd r (n : Int) least most) W')) := fun W' e => by subst e; exact hold_calls lo gr gh r _ _ _ _ (h.below (Below.refl _ W).drew)
  have HF : Hid (Fr lo W W.drew) := Fr.below (Below.refl _ W).drew h.low
  clear h hp
  go_enter Try.func78, Try.ntmps78
  go_wp2_with fail
  go_region_held3 (fun w' => w'.cell? ⟨gh, 0, none⟩ = some (.func (.func 75) #[] #[.pointer (some ⟨gr, 0, none⟩)]) ∧ w'.cell? a = some (.slice p n c)) (go_keep) (first
    | (go_at_call 75; refine (HC.out _ rfl).mono ?_; rintro e w1 ⟨rfl, hj, hf⟩; have HJ : Hid (JC lo gr gh _ w1) := hj; have HF1 : Hid (Fr lo _ w1) := HF.out.trans hf; have c1 := hj.hold.cell 0; have a1 := HP.out w1 HF1.out; simp only [List.getElem?_toArray, List.getElem?_cons_zero] at c1; clear hj hf)
    )
  go_wp2_with fail
  first | go_end0 | refine bodyPost_ret (results_none rfl _ _ _) rfl ?_
  exact ⟨rfl, HJ.out, HF1.out⟩
set_option maxHeartbeats 1000000 in
theorem ccount_calls (lo gr gh : Nat) (r : Bool) (W : World) (n most : Int) (fv : Value) (h : JC lo gr gh r W) :
    Calls Try.prog 79 #[.int .i64 n, .int .i64 most, fv, .pointer (some ⟨gh, 0, none⟩)] W (CkP lo gr gh (hd r n 0 most) W) := by
  have c0 := h.hold.cell 0
  simp only [List.getElem?_toArray, List.getElem?_cons_zero] at c0
  have HC : Hid (∀ W', W' = W → Calls Try.prog 75 #[.int .i64 n, .int .i64 0, .int .i64 most, .pointer (some ⟨gr, 0, none⟩)] W' (CkP lo gr gh (hd r n 0 most) W')) := fun W' e => by subst e; exact hold_calls lo gr gh r _ _ _ _ h
  have HF : Hid (Fr lo W W) := Fr.refl _ _
  clear h
  go_enter Try.func79, Try.ntmps79
  go_wp2_with fail
  refine (HC.out _ rfl).mono ?_
  rintro e w1 ⟨rfl, hj, hf⟩
  have HJ : Hid (JC lo gr gh _ w1) := hj
  have HF1 : Hid (Fr lo _ w1) := hf
  clear hj hf
  go_wp2_with fail
  first | go_end0 | refine bodyPost_ret (results_none rfl _ _ _) rfl ?_
  exact ⟨rfl, HJ.out, HF1.out⟩
end Go.Proofs.Ytkaaddahegkmgaa
