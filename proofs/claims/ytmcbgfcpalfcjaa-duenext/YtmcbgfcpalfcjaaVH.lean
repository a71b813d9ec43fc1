/- The bytes of a value and its shape, as plain functions; appending to bytes of one's own. -/
import Derived.Test.YtmcbgfcpalfcjaaVG
import Derived.Test.YtmcbgfcpalfcjaaVD
import Derived.Test.YtmcbgfcpalfcjaaPP
namespace Go.Proofs.Ytmcbgfcpalfcjaa
open Go.ChangeShapes Go.WideShapes Go.ChangeAt Go.RowKit
/-- A value's bytes. -/
def bytesT : Nat → Tv → List UInt8
  | 0, _ => []
  | n + 1, .mk k x b s l => enc k.toNat ++ (if k = 1 then be (tn x) 8 else if k = 2 then be b.toNat 8 else if k = 3 then enc s.size ++ s.data.toList else if k = 4 then enc l.length ++ (l.map (bytesT n)).flatten else [])
/-- A value may be, but for how many bytes it has; d: how many lists may stand in it. -/
def ShapeT : Nat → Int → Tv → Prop
  | 0, _, _ => False
  | n + 1, d, .mk k x b s l => Fits k x b s l.length ∧ (k = 4 → d ≠ 0) ∧ ∀ (i : Nat) t, l[i]? = some t → ShapeT n (d - 1) t
theorem grown_block {w w' : World} {row : Option Nat} (h : w.grownBy w' row) {k : Nat} (hk : k < w.heap.size) (hn : row ≠ some k) : w'.heap[k]? = w.heap[k]? := h.block k hk (fun e => hn e.symm)
theorem own_shape {B : Nat} {w : World} {v : Value} {l : List UInt8} (h : Own B w v l) : ∃ p c, v = .slice p l.length c := by
  obtain ⟨_, h | ⟨g, c, _, hv, _⟩⟩ := h
  · exact ⟨none, 0, by rw [h.1, h.2]⟩
  · exact ⟨_, _, hv⟩
theorem own_lt {B : Nat} {w : World} {v : Value} {l : List UInt8} (h : Own B w v l) {k : Nat} (hk : v.ownBlock = some k) : k < w.heap.size := by
  obtain ⟨_, h | ⟨g, _, _, hv, _, hc, _⟩⟩ := h
  · rw [h.1] at hk; cases hk
  · rw [hv] at hk; cases hk; exact (Array.getElem?_eq_some_iff.1 hc).1
theorem At5.same {w w' : World} {B p : Nat} {c0 c1 c2 c3 c4 : Value} (h : At5 w B p c0 c1 c2 c3 c4) (hb : w'.heap[B]? = w.heap[B]?) : At5 w' B p c0 c1 c2 c3 c4 := by
  have f : ∀ {q : Nat} {c : Value}, w.cell? ⟨B, q, none⟩ = some c → w'.cell? ⟨B, q, none⟩ = some c := fun hc => (World.cell?_of_block (w := w) hb).trans hc
  exact ⟨f h.1, f h.2.1, f h.2.2.1, f h.2.2.2.1, f h.2.2.2.2⟩
theorem wpList_app {w : World} {ops : Array Oper} {rest : List Oper} {o : Oper} {a : Act} {Q : Exit → Act → World → Prop} (hgd : o.guard = none) (s x : Operand)
    (ho : o.op = .call { callee := .builtin .append, args := #[s, x], argTypes := #[59, 59] }) (B : Nat) (v : Value) (l : List UInt8) (hs : a.eval s = v) (hown : Own B w v l)
    (g : Nat) (m : List UInt8) (hx : a.eval x = .slice (some ⟨g, 0, none⟩) m.length m.length) (hh : Lib.HoldsBytes w (.slice (some ⟨g, 0, none⟩) m.length m.length) m)
    (hl : l.length + m.length ≤ 140737488355328) (hB : B ≤ w.heap.size)
    (h : ∀ v' w', Own B w' v' (l ++ m) → Below B w w' → (∀ k, k < w.heap.size → v.ownBlock ≠ some k → w'.heap[k]? = w.heap[k]?) → wpList Try.prog ops Q rest (a.put o.dst v') w') : wpList Try.prog ops Q (o :: rest) a w := by
  obtain ⟨i0, hi, hz0, hz1, hz2⟩ := info_parts Try.info5
  obtain ⟨p, c, e, h1, h2⟩ := hh
  cases e
  refine wpList_append_own _ hgd s x 59 ho B 5 i0 (.int .u8 0) 1 1 Try.underlying59 hi hz0 hz1 hz2 rfl (by decide) v l.length (bval l) hs hown ⟨g, 0, none⟩ m.length m.length (bval m) hx ?_ ?_ ?_ ?_ ?_ hB ?_
  · simp [bval]
  · intro j u hj
    unfold bval at hj
    rw [List.getElem?_map] at hj
    obtain ⟨x, hx, rfl⟩ := Option.map_eq_some_iff.1 hj
    exact h2 _ rfl j x hx
  · intro u hu
    obtain ⟨x, _, rfl⟩ := List.mem_map.1 hu
    rfl
  · unfold maxLen; omega
  · omega
  · intro v' w' hown' hgrow _
    refine h v' w' ?_ ((Below.refl _ w).grown hgrow hB ?_) (fun k hk hn => grown_block hgrow hk hn)
    · have := hown'
      unfold Own
      rw [List.length_append]
      simpa [bval] using this
    · intro k hk
      obtain ⟨_, h | ⟨g', _, _, h, hg, _⟩⟩ := hown
      · rw [h.1] at hk; cases hk
      · rw [h] at hk; cases hk; exact hg
/-- What write and writeList answer: p: it may be; out: the bytes then. -/
def WP (w0 : World) (p : Prop) (out : List UInt8) (e : Ending) (w' : World) : Prop :=
  ∃ o r, e = .returned (.tuple #[o, .bool r]) ∧ (r = true ↔ p) ∧ (r = true → Own w0.heap.size w' o out) ∧ (r = false → o = .slice none 0 0) ∧ Below w0.heap.size w0 w'
theorem WP.no {w0 w' : World} {p : Prop} {out : List UInt8} (h : ¬ p) (hb : Below w0.heap.size w0 w') : WP w0 p out (.returned (.tuple #[.slice none 0 0, .bool false])) w' :=
  ⟨_, false, rfl, ⟨fun h => (by cases h), fun q => absurd q h⟩, (fun h => by cases h), fun _ => rfl, hb⟩
theorem WP.yes {w0 w' : World} {p : Prop} {o : Value} {out : List UInt8} (h : p) (ho : Own w0.heap.size w' o out) (hb : Below w0.heap.size w0 w') : WP w0 p out (.returned (.tuple #[o, .bool true])) w' :=
  ⟨_, true, rfl, ⟨fun _ => h, fun _ => rfl⟩, (fun _ => ho), (fun h => by cases h), hb⟩
theorem bel2' {w0 w w' : World} (h : Below w0.heap.size w0 w) (k : Below w.heap.size w w') : Below w0.heap.size w0 w' := bel2 h k
theorem flat_more {n : Nat} {l : List Tv} {j : Nat} (h : j < l.length) : ((l.take (j + 1)).map (bytesT n)).flatten = ((l.take j).map (bytesT n)).flatten ++ bytesT n l[j] := by
  rw [List.take_add_one, List.getElem?_eq_getElem h]
  simp only [Option.toList_some, List.map_append, List.flatten_append, List.map_cons, List.map_nil, List.flatten_cons, List.flatten_nil, List.append_nil]
theorem flat_le {n : Nat} {l : List Tv} {j : Nat} : ((l.take j).map (bytesT n)).flatten.length ≤ ((l.map (bytesT n)).flatten).length := by
  conv => rhs; rw [← List.take_append_drop j l]
  rw [List.map_append, List.flatten_append, List.length_append]
  omega
theorem enc_one {n : Nat} (h : n ≤ 12) : (enc n).length = 1 := by unfold enc; rw [if_pos (by omega)]; rfl
theorem enc_small {n : Nat} (h : n ≤ 200) : (enc n).length = 1 := by unfold enc; rw [if_pos (by omega)]; rfl
theorem own_below {B : Nat} {w w' : World} {v : Value} {l : List UInt8} (h : Own B w v l) (hb : Below w.heap.size w w') : Own B w' v l := by
  obtain ⟨hl, h | ⟨g, c, cur, hv, hg, hc, h1, h2, h3, h4⟩⟩ := h
  · exact ⟨hl, .inl h⟩
  · exact ⟨hl, .inr ⟨g, c, cur, hv, hg, by rw [hb.block g (Array.getElem?_eq_some_iff.1 hc).1]; exact hc, h1, h2, h3, h4⟩⟩
theorem wf64 {x : Int} (h0 : -9223372036854775808 ≤ x) (h1 : x ≤ 9223372036854775807) : (Lit.int .i64 x).wf = true := by
  have e : IntKind.i64.min = -9223372036854775808 := by decide +kernel
  simp only [Lit.wf, decide_eq_true_eq, Bool.and_eq_true]
  exact ⟨by rw [e]; exact h0, h1⟩
theorem data_len (s : ByteArray) : s.data.toList.length = s.size := Array.length_toList
theorem fit_bound {k x b : Int} {s : ByteArray} {n : Nat} (h : Fits k x b s n) : 0 ≤ k ∧ k ≤ 4 ∧ s.size ≤ 200 ∧ n ≤ 12 := ⟨h.1, h.2.1, h.2.2.2.2.2.2.1, h.2.2.2.2.2.2.2.2⟩
end Go.Proofs.Ytmcbgfcpalfcjaa
