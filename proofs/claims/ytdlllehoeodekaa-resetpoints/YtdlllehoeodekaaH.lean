/- The contract of Fork. -/
import Derived.Test.YtdlllehoeodekaaG
namespace Go.Proofs.Ytdlllehoeodekaa
open Go.ChangeAt Go.ChangeShapes Go.Deep Go.RowKit Go.WideShapes Go.Shelf
attribute [local go_sem] Oper.semAt_some
/-- All these numbers are at most keep. -/
def upto (keep : Int) (pre : List Nat) : Prop := ∀ i ∈ pre, (i : Int) + 1 ≤ keep
theorem fin_fork {Bo N B0 : Nat} {w1 W W' : World} {v' : Value} {ys zs : List Ev} {pre : List Nat} {x : Nat} {keep : Int} (h : Bg Bo N W W' v' zs) (hB : Below w1.heap.size w1 W) (hs : w1.heap.size = Bo) (hx : Hid (upto keep (pre ++ [x]))) (hf : (pre ++ [x]).map (ex ys) = zs) :
    KeepsFrom B0 W W' ∧ Below w1.heap.size W W' ∧ ((∃ v, Boxed W' Bo 22 v ∧ Es Bo N W' v ((pre ++ [x]).map (ex ys))) ∧ upto keep (pre ++ [x])) ∧ Below w1.heap.size w1 W' := by
  have hb : Below w1.heap.size W W' := by rw [hs]; exact h.2.1
  exact ⟨h.1.from _, hb, ⟨⟨v', h.2.2.1, by rw [hf]; exact h.2.2.2⟩, hx.out⟩, hB.trans hb⟩
/-- How many of N events a fork has. -/
def nk (keep : Int) (N : Nat) : Nat := (min (max keep 0) (N : Int)).toNat
theorem upto_all {keep : Int} {N : Nat} (h : upto keep (List.range N)) : nk keep N = N := by
  unfold nk
  cases N with
  | zero => omega
  | succ N =>
    have := h N (by simp)
    omega
theorem upto_stop {keep : Int} {N : Nat} {p : List Nat} {x : Nat} (h : upto keep p) (hx : keep < (x : Int) + 1) (hp : p ++ [x] <+: List.range N) : p = List.range (nk keep N) := by
  have hl : p.length + 1 ≤ N := by have := hp.length_le; simpa using this
  have e := List.prefix_iff_eq_take.1 hp
  rw [List.length_append, List.length_singleton, List.take_range, Nat.min_eq_left hl, List.range_succ] at e
  obtain ⟨e1, e2⟩ := List.append_inj e (by simp)
  have ex : x = p.length := by simpa using e2
  have : nk keep N = p.length := by
    unfold nk
    rw [ex] at hx
    by_cases h0 : p.length = 0
    · omega
    · have hm : p.length - 1 ∈ p := by rw [e1]; simp; omega
      have := h _ hm
      omega
  rw [this]
  exact e1
end Go.Proofs.Ytdlllehoeodekaa
