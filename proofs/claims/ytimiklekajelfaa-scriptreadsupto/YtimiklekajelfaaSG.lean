/- A range over a function whose iterator has a reader of its own; the texts of a script. -/
import Derived.Test.YtimiklekajelfaaSF
import Derived.RangeFuncNested
import Derived.RangeFuncBound
import Derived.RangeFuncCalls
import Derived.RangeFuncLeaves
import Derived.Shelf.Abstract
import Derived.Shelf.RegionOpen
import Derived.OwnWalkIn
import Derived.TacticsInMore
import Derived.LoopNIn
import Derived.LoopIn
namespace Go.Proofs.Ytimiklekajelfaa
open Go.ChangeShapes Go.WideShapes Go.ChangeAt Go.RowKit
attribute [local go_sem] Oper.semAt_some
/-- The texts of a script: as long as a whole one comes. -/
def txN : Nat → List UInt8 → List (List UInt8)
  | 0, _ => []
  | n + 1, l => if l = [] then [] else if (sText 32768 l 0).2.2 = 0 then (sText 32768 l 0).1 :: txN n (sText 32768 l 0).2.1 else []
theorem sText_lt {m : Int} {l : List UInt8} (_hl : l ≠ []) (h : (sText m l 0).2.2 = 0) : (sText m l 0).2.1.length < l.length := by
  have := sText_inv (m := m) (l := l) (s := (sText m l 0).1) (t := (sText m l 0).2.1) (Prod.ext rfl (Prod.ext rfl h))
  obtain ⟨e, _⟩ := this
  have h1 : l.length = (enc (sText m l 0).1.length).length + ((sText m l 0).1.length + (sText m l 0).2.1.length) := by
    conv => lhs; rw [e]
    rw [List.length_append, List.length_append]
  have h2 : 1 ≤ (enc (sText m l 0).1.length).length := by
    unfold enc
    split <;> simp
  omega
theorem txN_fuel : ∀ (n m : Nat) (l : List UInt8), l.length ≤ n → l.length ≤ m → txN n l = txN m l
  | 0, m, l, h1, _ => by
    have : l = [] := List.eq_nil_of_length_eq_zero (by omega)
    subst this
    cases m <;> simp [txN]
  | n + 1, 0, l, _, h2 => by
    have : l = [] := List.eq_nil_of_length_eq_zero (by omega)
    subst this
    simp [txN]
  | n + 1, m + 1, l, h1, h2 => by
    unfold txN
    by_cases hl : l = []
    · rw [if_pos hl, if_pos hl]
    · rw [if_neg hl, if_neg hl]
      by_cases he : (sText 32768 l 0).2.2 = 0
      · rw [if_pos he, if_pos he]
        have := sText_lt hl he
        rw [txN_fuel n m _ (by omega) (by omega)]
      · rw [if_neg he, if_neg he]
def tx (l : List UInt8) : List (List UInt8) := txN l.length l
theorem tx_nil : tx [] = [] := rfl
theorem tx_more {l : List UInt8} (hl : l ≠ []) (h : (sText 32768 l 0).2.2 = 0) : tx l = (sText 32768 l 0).1 :: tx (sText 32768 l 0).2.1 := by
  have h1 := sText_lt hl h
  obtain ⟨n, hn⟩ : ∃ n, l.length = n + 1 := ⟨l.length - 1, by omega⟩
  unfold tx
  rw [hn]
  conv => lhs; unfold txN
  rw [if_neg hl, if_pos h, txN_fuel n _ _ (by omega) (Nat.le_refl _)]
theorem tx_end {l : List UInt8} (hl : l ≠ []) (h : (sText 32768 l 0).2.2 ≠ 0) : tx l = [] := by
  obtain ⟨n, hn⟩ : ∃ n, l.length = n + 1 := ⟨l.length - 1, by have := List.length_pos_iff.2 hl; omega⟩
  unfold tx
  rw [hn]
  unfold txN
  rw [if_neg hl, if_neg h]
/-- What an iterator does that has a reader of its own, at block gg, over block hh: the texts, one behind the other; the reader stays while a round runs. -/
def SeqRd (n : Nat) (f : Nat) (lb : Array Value) (xs : List (List UInt8)) (N : Nat) (w : World) : Prop :=
  ∀ (l : Nat) (J : Nat → Nat → List (List UInt8) → World → Prop) (W : World), Below w.heap.size w W →
    (∀ gg hh W1, W.heap.size ≤ hh → hh < gg → gg < W1.heap.size → Below W.heap.size W W1 → J gg hh [] W1) →
    (∀ gg hh pre A C, W.heap.size ≤ gg → J gg hh pre A → KB gg A C → J gg hh pre C) →
    (∀ gg hh pre x v W1, W.heap.size ≤ hh → W.heap.size ≤ gg → J gg hh pre W1 → HL eb (fun B => W.heap.size ≤ B) W1 v x → x.length ≤ 32768 → pre.length < N → YieldAt Fence.wide (n - 1) Try.prog l #[v] W1 fun e W' =>
      e = .returned (.bool true) ∧ J gg hh (pre ++ [x]) W' ∧ W1.heap.size ≤ W'.heap.size ∧ W'.heap[gg]? = W1.heap[gg]? ∧ W'.heap[hh]? = W1.heap[hh]?) →
    CallsIn Fence.wide n Try.prog f (#[.func (.yield l) #[] #[]] ++ lb) W fun e W' => (∃ v, e = .returned v) ∧ ∃ gg hh, J gg hh xs W'
/-- How the body of a round is left: off its end. -/
def rdPost (B gg hh : Nat) (I : List (List UInt8) → World → Prop) (xs : List (List UInt8)) (W : World) : Exit → Act → World → Prop
  | .normal, _, W' => KeepsFrom B W W' ∧ I xs W' ∧ W'.heap[gg]? = W.heap[gg]? ∧ W'.heap[hh]? = W.heap[hh]?
  | _, _, _ => False
theorem wpIn_rangeFunc_rd {n : Nat} {g : Operand} {p : Tmp} {assign body : Code} {Q : Exit → Act → World → Prop} {a : Act} {w : World}
    (h1 : 1 ≤ n) {gf : Nat} {lb : Array Value} (hg : a.eval g = .func (.func gf) #[] lb) (eg : ∀ args w, (callFunc gf args).run Try.prog w = .ok (.enter gf args) w)
    {xs : List (List UInt8)} {N : Nat} (hseq : SeqRd (n - 1) gf lb xs N w)
    (I : Nat → Nat → List (List UInt8) → World → Prop) (hI : ∀ gg hh, OwnFrom w.heap.size (I gg hh)) (hIk : ∀ gg hh pre A C, w.heap.size ≤ gg → I gg hh pre A → KB gg A C → I gg hh pre C)
    (h0 : ∀ gg hh W1, w.heap.size + 2 ≤ hh → hh < gg → gg < W1.heap.size → Below w.heap.size w W1 → I gg hh [] W1) (a₁ : Value → Act)
    (hassign : ∀ (l : Nat) (v : Value) (W : World) (K : Act → World → Prop), K (a₁ v) W →
      assign.wpIn (Fence.wide.inRound l) (n - 1 - 1) Try.prog (Exit.then K (fun _ _ _ => False)) { tmps := (#[p].zip #[v]).foldl (fun t (p, v) => t.setIfInBounds p v) a.tmps, defers := [] } W)
    (hbody : ∀ (l gg hh : Nat) (pre : List (List UInt8)) (x : List UInt8) (v : Value) (W : World), w.heap.size + 2 ≤ hh → w.heap.size + 2 ≤ gg → I gg hh pre W → HL eb (fun B => w.heap.size ≤ B) W v x → x.length ≤ 32768 → pre.length < N →
      body.wpIn (Fence.wide.inRound l) (n - 1 - 1) Try.prog (rdPost w.heap.size gg hh (I gg hh) (pre ++ [x]) W) (a₁ v) W)
    (hdone : ∀ (D gg hh : Nat) (W : World), w.heap.size ≤ D → w.heap.size + 2 ≤ gg → I gg hh xs W → W.heap[D]? = some (.deferred (some [])) → Q .normal { a with defers := { target := .collected D, args := #[] } :: a.defers } W) :
    (Code.rangeFunc g #[p] assign body).wpIn Fence.wide n Try.prog Q a w := by
  refine wpIn_rangeFunc ?_
  intro fn hfn
  obtain ⟨rec, hrec⟩ : ∃ rec : LoopState → Option Code → Loop, rec = fun st pe => { state := st, pending := pe, fn, tmps := a.tmps, params := #[p], assign, body, defers := w.heap.size } := ⟨_, rfl⟩
  obtain ⟨W1, hW1⟩ : ∃ W1, (w.alloc (.deferred (some []))).alloc (.loop (rec .ready none)) = W1 := ⟨_, rfl⟩
  have hL1 : W1.heap[w.heap.size + 1]? = some (.loop (rec .ready none)) := by
    rw [← hW1]; have := World.alloc_heap_new (w.alloc (.deferred (some []))) (.loop (rec .ready none)); rwa [World.size_alloc] at this
  have hK1 : W1.heap[w.heap.size]? = some (.deferred (some [])) := by
    rw [← hW1]; exact (Below.heap_alloc _ _ _ (by simp)).trans (World.alloc_heap_new w _)
  have hb1 : Below w.heap.size w W1 := by
    rw [← hW1]; exact ((Below.refl _ w).alloc (Nat.le_refl _) _).alloc (by simp) _
  have hs1 : W1.heap.size = w.heap.size + 2 := by rw [← hW1]; simp
  refine ⟨w.heap.size + 1, [{ target := .collected w.heap.size, args := #[] }], W1, { target := .fn (.func gf) lb, args := #[.func (.yield (w.heap.size + 1)) #[] #[]] }, W1, gf,
    #[.func (.yield (w.heap.size + 1)) #[] #[]] ++ lb, W1, ?_, ?_, ?_, ?_, fun _ => h1, ?_⟩
  · rw [← hW1, hrec]; exact run_enterLoop_outer _ _ _ _ _
  · simp only [resolve, hg]
    simp [go_sem]
  · intro f' hf'; trivial
  · simp [invoke, go_sem, eg]
  · refine (hseq (w.heap.size + 1)
      (fun gg hh pre W => w.heap.size + 2 ≤ gg ∧ I gg hh pre W ∧ W.heap[w.heap.size + 1]? = some (.loop (rec .ready none)) ∧ W.heap[w.heap.size]? = some (.deferred (some [])))
      W1 hb1 ?_ ?_ ?_).mono ?_
    · intro gg hh W2 a1 a2 a3 a4
      exact ⟨by omega, h0 gg hh W2 (by omega) a2 a3 (hb1.trans (a4.mono hb1.size)), (a4.block _ (by omega)).trans hL1, (a4.block _ (by omega)).trans hK1⟩
    · rintro gg hh pre A C a1 ⟨a2, a3, a4, a5⟩ k
      have h4 := (Array.getElem?_eq_some_iff.1 a4).1
      exact ⟨a2, hIk gg hh pre A C (by omega) a3 k, (k.2.2.2.2 _ h4 (by omega)).trans a4, (k.2.2.2.2 _ (by omega) (by omega)).trans a5⟩
    · -- ONE ROUND
      rintro gg hh pre x v W b0 b1 ⟨_, hi, hl, hk⟩ hv hxl hlen
      have hlt : w.heap.size + 1 < W.heap.size := (Array.getElem?_eq_some_iff.1 hl).1
      have hy := run_yield (P := Try.prog) (args := #[v]) hl (by rw [hrec]; rfl)
      rw [hrec] at hy
      refine ⟨fn, _, assign, body, hy, roundIn_of_wpIn hfn (hassign _ v W _ ⟨_, run_beginRound hl (by rw [hrec]), ?_⟩)⟩
      have hl2 : (W.putObj (w.heap.size + 1) (.loop { rec .ready none with state := .busy })).heap[w.heap.size + 1]? = some (.loop { rec .ready none with state := .busy }) := World.putObj_heap_same hlt
      have hk2 : (W.putObj (w.heap.size + 1) (.loop { rec .ready none with state := .busy })).heap[w.heap.size]? = some (.deferred (some [])) := (World.putObj_heap_other (by omega)).trans hk
      have hz2 : (W.putObj (w.heap.size + 1) (.loop { rec .ready none with state := .busy })).heap.size = W.heap.size := by simp [World.putObj]
      have hg2 : (W.putObj (w.heap.size + 1) (.loop { rec .ready none with state := .busy })).heap[gg]? = W.heap[gg]? := World.putObj_heap_other (by omega)
      have hh2 : (W.putObj (w.heap.size + 1) (.loop { rec .ready none with state := .busy })).heap[hh]? = W.heap[hh]? := World.putObj_heap_other (by omega)
      refine wpIn_mono (hbody _ gg hh pre x v _ (by omega) (by omega) ((hI gg hh).putObj _ hi (by omega) hl rfl) (hv.keep fun B hB _ => ⟨World.putObj_heap_other (by omega), by omega⟩) hxl hlen) ?_
      rintro e a3 W3 hp
      cases e with
      | normal =>
        obtain ⟨hk3, hi3, hg3, hh3⟩ := hp
        have hl3 := hk3.same _ _ (by omega) hl2 rfl
        have hr := run_endRound (P := Try.prog) none hl3
        have hl3' := (Array.getElem?_eq_some_iff.1 hl3).1
        have hz3 := hk3.size
        refine ⟨_, _, hr, rfl, ⟨by omega, (hI gg hh).putObj _ hi3 (by omega) hl3 rfl, ?_, (World.putObj_heap_other (by omega)).trans (hk3.same _ _ (Nat.le_refl _) hk2 rfl)⟩, ?_, (World.putObj_heap_other (by omega)).trans (hg3.trans hg2), (World.putObj_heap_other (by omega)).trans (hh3.trans hh2)⟩
        · rw [World.putObj_heap_same hl3', hrec]
          rfl
        · have : (W3.putObj (w.heap.size + 1) (.loop { { rec .ready none with state := .busy } with state := .ready, pending := none })).heap.size = W3.heap.size := by simp [World.putObj]
          simp only [World.putObj, Array.size_setIfInBounds] at *
          omega
      | ret => exact hp.elim
      | exit id => exact hp.elim
      | goto t => exact hp.elim
      | panic ch => exact hp.elim
      | outgrown => exact hp.elim
    · -- BEHIND THE ITERATOR
      rintro e W2 ⟨⟨v, rfl⟩, gg, hh, b1, hi, hl, hk⟩
      refine ⟨none, _, by have := run_endLoop (P := Try.prog) hl (by rw [hrec]; simp); rw [hrec] at this; exact this, hdone _ gg hh _ (Nat.le_refl _) b1 ((hI gg hh).putObj _ hi (by omega) hl rfl) ((World.putObj_heap_other (by omega)).trans hk)⟩
end Go.Proofs.Ytimiklekajelfaa
