/- Four closures that go through fields, as the walks of batch and write take them: what they make of a state; what stays. -/
import Derived.Test.YtkaaddahegkmgaaBB
namespace Go.Proofs.Ytkaaddahegkmgaa
open Go.ChangeShapes Go.WideShapes Go.ChangeAt Go.RowKit
theorem Pers.old {w W : World} {a : Addr} {v : Value} (h : w.cell? a = some v) (hW : Below w.heap.size w W) : Pers w.heap.size W a v := fun _ f => cell_below h (hW.trans f.1)
theorem Pers.bk {lo : Nat} {W : World} {g i : Nat} {cs : Array Value} {t : TypeId} {v : Value} (h : Bk W g cs t) (ht : t ≠ 4 ∧ t ≠ 5 ∧ t ≠ 26) (hv : cs[i]? = some v) : Pers lo W ⟨g, i, none⟩ v := fun _ f => ((f.bk h ht).cell i).trans hv
/-- What the four closures make of a state; conditions; what they are told. -/
structure Ways (σ : Type) where
  N : σ → Int → Int → σ
  T : σ → ByteArray → Int → Int → σ
  B : σ → List UInt8 → Int → Int → σ
  C : σ → Int → Int → σ
  gN : σ → Int → Prop
  gT : σ → ByteArray → Prop
  gB : σ → List UInt8 → Prop
def CloP (lo : Nat) {σ : Type} (J : σ → World → Prop) (st : σ) (W : World) (e : Ending) (W' : World) : Prop := e = .returned (.tuple #[]) ∧ J st W' ∧ Fr lo W W'
structure Clo (lo : Nat) (k0 k1 k2 k3 : FuncId) (cap : Value) {σ : Type} (J : σ → World → Prop) (s : Ways σ) : Prop where
  below : ∀ st W W', J st W → Below W.heap.size W W' → J st W'
  low : ∀ st W, J st W → lo ≤ W.heap.size
  num : ∀ st W a n most, J st W → s.gN st n → Pers lo W a (.int .i64 n) → Calls Try.prog k0 #[.pointer (some a), .int .i64 most, cap] W (CloP lo J (s.N st n most) W)
  text : ∀ st W a x least most, J st W → s.gT st x → Pers lo W a (.string x) → Calls Try.prog k1 #[.pointer (some a), .int .i64 least, .int .i64 most, cap] W (CloP lo J (s.T st x least most) W)
  bytes : ∀ st W a p n c l least most, J st W → s.gB st l → Pers lo W a (.slice p n c) → (∀ W', Fr lo W W' → Lib.HoldsBytes W' (.slice p n c) l) → Calls Try.prog k2 #[.pointer (some a), .int .i64 least, .int .i64 most, cap] W (CloP lo J (s.B st l least most) W)
  count : ∀ st W n most fv, J st W → s.gN st n → Calls Try.prog k3 #[.int .i64 n, .int .i64 most, fv, cap] W (CloP lo J (s.C st n most) W)
/-- What going through a write's fields makes of a state: ahead of its events, and of these. -/
def wy0 {σ : Type} (s : Ways σ) (st : σ) (t : Wt) : σ := s.C (s.N (s.N (s.T (s.T st t.br 1 64) t.fk 0 64) t.kp 120) t.ta 120) (t.ev.length : Int) 120
def wyE {σ : Type} (s : Ways σ) (st : σ) (l : List (List UInt8)) : σ := l.foldl (fun st e => s.B st e 1 4096) st
def wyW {σ : Type} (s : Ways σ) (st : σ) (t : Wt) : σ := wyE s (wy0 s st t) t.ev
theorem wyE_more {σ : Type} (s : Ways σ) (st : σ) (l : List (List UInt8)) (j : Nat) (h : j < l.length) : wyE s st (l.take (j + 1)) = s.B (wyE s st (l.take j)) l[j] 1 4096 := by
  unfold wyE
  rw [List.take_add_one, List.getElem?_eq_getElem h, List.foldl_append]
  rfl
/-- The conditions at a write. -/
structure GW {σ : Type} (s : Ways σ) (st : σ) (t : Wt) : Prop where
  g1 : s.gT st t.br
  g2 : s.gT (s.T st t.br 1 64) t.fk
  g3 : s.gN (s.T (s.T st t.br 1 64) t.fk 0 64) t.kp
  g4 : s.gN (s.N (s.T (s.T st t.br 1 64) t.fk 0 64) t.kp 120) t.ta
  g5 : s.gN (s.N (s.N (s.T (s.T st t.br 1 64) t.fk 0 64) t.kp 120) t.ta 120) (t.ev.length : Int)
  g6 : ∀ j (h : j < t.ev.length), s.gB (wyE s (wy0 s st t) (t.ev.take j)) t.ev[j]
/-- And through a batch's. -/
def by0 {σ : Type} (s : Ways σ) (st : σ) (b : Bt) : σ := s.C (s.B (s.N (s.T st b.key 1 64) b.ex 2147483648) b.row 0 524288) (b.ws.length : Int) 4
def byW {σ : Type} (s : Ways σ) (st : σ) (l : List Wt) : σ := l.foldl (wyW s) st
def byB {σ : Type} (s : Ways σ) (st : σ) (b : Bt) : σ := byW s (by0 s st b) b.ws
theorem byW_more {σ : Type} (s : Ways σ) (st : σ) (l : List Wt) (j : Nat) (h : j < l.length) : byW s st (l.take (j + 1)) = wyW s (byW s st (l.take j)) l[j] := by
  unfold byW
  rw [List.take_add_one, List.getElem?_eq_getElem h, List.foldl_append]
  rfl
structure GB {σ : Type} (s : Ways σ) (st : σ) (b : Bt) : Prop where
  g1 : s.gT st b.key
  g2 : s.gN (s.T st b.key 1 64) b.ex
  g3 : s.gB (s.N (s.T st b.key 1 64) b.ex 2147483648) b.row
  g4 : s.gN (s.B (s.N (s.T st b.key 1 64) b.ex 2147483648) b.row 0 524288) (b.ws.length : Int)
  g5 : ∀ j (h : j < b.ws.length), GW s (byW s (by0 s st b) (b.ws.take j)) b.ws[j]
/-- The two boxes of write. -/
structure Bx (W : World) (q : Nat) (f0 f1 f2 f3 : Value) (a : Addr) (t : TypeId) : Prop where
  f : Bk W q #[f0, f1, f2, f3] 119
  p : Bk W (q + 1) #[.pointer (some a)] t
theorem Bx.new (W : World) (f0 f1 f2 f3 : Value) (a : Addr) (t : TypeId) : Bx ((W.alloc (.cells #[f0, f1, f2, f3] 119)).alloc (.cells #[.pointer (some a)] t)) W.heap.size f0 f1 f2 f3 a t := by
  refine ⟨(Bk.new W _ _).below (bel1 _ _), ?_⟩
  have := Bk.new (W.alloc (.cells #[f0, f1, f2, f3] 119)) #[.pointer (some a)] t
  simpa using this
theorem Bx.fr {lo : Nat} {W W' : World} {q : Nat} {f0 f1 f2 f3 : Value} {a : Addr} {t : TypeId} (h : Bx W q f0 f1 f2 f3 a t) (k : Fr lo W W') (ht : t ≠ 4 ∧ t ≠ 5 ∧ t ≠ 26) : Bx W' q f0 f1 f2 f3 a t := ⟨k.bk h.f (by decide), k.bk h.p ht⟩
/-- Its cells, as the walk reads them. -/
theorem Bx.cells {W : World} {q : Nat} {f0 f1 f2 f3 : Value} {a : Addr} {t : TypeId} (h : Bx W q f0 f1 f2 f3 a t) : W.cell? ⟨q, 0, none⟩ = some f0 ∧ W.cell? ⟨q, 1, none⟩ = some f1 ∧ W.cell? ⟨q, 2, none⟩ = some f2 ∧ W.cell? ⟨q, 3, none⟩ = some f3 ∧ W.cell? ⟨q + 1, 0, none⟩ = some (.pointer (some a)) :=
  ⟨h.f.cell 0, h.f.cell 1, h.f.cell 2, h.f.cell 3, h.p.cell 0⟩
/-- Where a walk through fields stands: the two boxes, the state. -/
structure Wk (lo : Nat) {σ : Type} (J : σ → World → Prop) (W0 W : World) (q : Nat) (f0 f1 f2 f3 : Value) (a : Addr) (t : TypeId) (st : σ) : Prop where
  bx : Bx W q f0 f1 f2 f3 a t
  st : J st W
  fr : Fr lo W0 W
theorem Wk.step {lo : Nat} {σ : Type} {J : σ → World → Prop} {W0 W W' : World} {q : Nat} {f0 f1 f2 f3 : Value} {a : Addr} {t : TypeId} {st st' : σ} (h : Wk lo J W0 W q f0 f1 f2 f3 a t st) (k : Fr lo W W') (j : J st' W') (ht : t ≠ 4 ∧ t ≠ 5 ∧ t ≠ 26) : Wk lo J W0 W' q f0 f1 f2 f3 a t st' := ⟨h.bx.fr k ht, j, h.fr.trans k⟩
/-- Behind the draw of an order. -/
theorem Wk.drew {lo : Nat} {σ : Type} {J : σ → World → Prop} {W0 W : World} {q : Nat} {f0 f1 f2 f3 : Value} {a : Addr} {t : TypeId} {st : σ} (h : Wk lo J W0 W q f0 f1 f2 f3 a t st) (hb : ∀ st W W', J st W → Below W.heap.size W W' → J st W') (hl : lo ≤ W.heap.size) (ht : t ≠ 4 ∧ t ≠ 5 ∧ t ≠ 26) : Wk lo J W0 W.drew q f0 f1 f2 f3 a t st :=
  h.step (Fr.below (Below.refl _ W).drew hl) (hb _ _ _ h.st (Below.refl _ W).drew) ht
end Go.Proofs.Ytkaaddahegkmgaa
