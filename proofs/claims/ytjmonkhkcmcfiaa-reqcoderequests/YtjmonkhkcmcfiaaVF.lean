/- The contracts of cloneAll and Clone: the same value, whose lists lie in new memory. Condition: no list has more than 500 values. -/
import Derived.Test.YtjmonkhkcmcfiaaVS
import Derived.Test.YtjmonkhkcmcfiaaPI
import Derived.Test.YtjmonkhkcmcfiaaPM
namespace Go.Proofs.Ytjmonkhkcmcfiaa
open Go.ChangeShapes Go.WideShapes Go.ChangeAt Go.RowKit
/-- As Row, in blocks from lo on. -/
def RowN (lo : Nat) (R : Value → Tv → Prop) (w : World) (a : Option Addr) (l : List Tv) : Prop :=
  ∀ i t, l[i]? = some t → ∃ B o c0 c1 c2 c3 c4, a = some ⟨B, o, none⟩ ∧ lo ≤ B ∧ At5 w B (o + i * 5) c0 c1 c2 c3 c4 ∧ R (.agg #[c0, c1, c2, c3, c4]) t
/-- As Is, all lists in blocks from lo on. -/
def IsN (lo : Nat) (w : World) : Nat → Value → Tv → Prop
  | 0, _, _ => False
  | n + 1, v, .mk k x b s l => ∃ a c, v = .agg #[.int .i64 k, .int .i64 x, .int .u64 b, .string s, .slice a l.length c] ∧ Fit k x b s l.length c ∧ RowN lo (IsN lo w n) w a l
theorem IsN.is {lo : Nat} {w : World} : ∀ {n : Nat} {v : Value} {t : Tv}, IsN lo w n v t → Is w n v t
  | 0, _, _, h => h
  | n + 1, v, .mk k x b s l, ⟨a, c, hv, hf, hr⟩ => ⟨a, c, hv, hf, fun i t ht => by
      obtain ⟨B, o, c0, c1, c2, c3, c4, ha, _, h5, hi⟩ := hr i t ht
      exact ⟨B, o, c0, c1, c2, c3, c4, ha, h5, hi.is⟩⟩
theorem RowN.row {lo n : Nat} {w : World} {a : Option Addr} {l : List Tv} (h : RowN lo (IsN lo w n) w a l) : Row (Is w n) w a l := fun i t ht => by
  obtain ⟨B, o, c0, c1, c2, c3, c4, ha, _, h5, hi⟩ := h i t ht
  exact ⟨B, o, c0, c1, c2, c3, c4, ha, h5, hi.is⟩
theorem At5.kb {g : Nat} {w w' : World} {B p : Nat} {c0 c1 c2 c3 c4 : Value} (h : At5 w B p c0 c1 c2 c3 c4) (hb : KB g w w') (hg : B ≠ g) : At5 w' B p c0 c1 c2 c3 c4 :=
  ⟨hb.cell h.1 hg, hb.cell h.2.1 hg, hb.cell h.2.2.1 hg, hb.cell h.2.2.2.1 hg, hb.cell h.2.2.2.2 hg⟩
theorem IsN.kb {g lo : Nat} {w w' : World} (hb : KB g w w') (hg : g < lo) : ∀ {n : Nat} {v : Value} {t : Tv}, IsN lo w n v t → IsN lo w' n v t
  | 0, _, _, h => h
  | n + 1, v, .mk k x b s l, ⟨a, c, hv, hf, hr⟩ => ⟨a, c, hv, hf, fun i t ht => by
      obtain ⟨B, o, c0, c1, c2, c3, c4, ha, hB, h5, hi⟩ := hr i t ht
      exact ⟨B, o, c0, c1, c2, c3, c4, ha, hB, h5.kb hb (by omega), hi.kb hb hg⟩⟩
theorem IsN.lower {lo lo' : Nat} {w : World} (hl : lo' ≤ lo) : ∀ {n : Nat} {v : Value} {t : Tv}, IsN lo w n v t → IsN lo' w n v t
  | 0, _, _, h => h
  | n + 1, v, .mk k x b s l, ⟨a, c, hv, hf, hr⟩ => ⟨a, c, hv, hf, fun i t ht => by
      obtain ⟨B, o, c0, c1, c2, c3, c4, ha, hB, h5, hi⟩ := hr i t ht
      exact ⟨B, o, c0, c1, c2, c3, c4, ha, by omega, h5, hi.lower hl⟩⟩
theorem RowN.kb {g lo n : Nat} {w w' : World} {a : Option Addr} {l : List Tv} (hb : KB g w w') (hg : g < lo) (h : RowN lo (IsN lo w n) w a l) : RowN lo (IsN lo w' n) w' a l := fun i t ht => by
  obtain ⟨B, o, c0, c1, c2, c3, c4, ha, hB, h5, hi⟩ := h i t ht
  exact ⟨B, o, c0, c1, c2, c3, c4, ha, hB, h5.kb hb (by omega), hi.kb hb hg⟩
/-- Five cells of block g are written, from p on. -/
def set5 (w : World) (g p : Nat) (c0 c1 c2 c3 c4 : Value) : World :=
  ((((w.setCell ⟨g, p, none⟩ c0).setCell ⟨g, p + 1, none⟩ c1).setCell ⟨g, p + 2, none⟩ c2).setCell ⟨g, p + 3, none⟩ c3).setCell ⟨g, p + 4, none⟩ c4
theorem set5_kb (w : World) (g p : Nat) (c0 c1 c2 c3 c4 : Value) : KB g w (set5 w g p c0 c1 c2 c3 c4) :=
  ((((KB.setCell g w p c0).trans (KB.setCell g _ _ c1)).trans (KB.setCell g _ _ c2)).trans (KB.setCell g _ _ c3)).trans (KB.setCell g _ _ c4)
theorem set5_other (w : World) (g p q : Nat) (c0 c1 c2 c3 c4 : Value) (h : q < p ∨ p + 5 ≤ q) : (set5 w g p c0 c1 c2 c3 c4).cell? ⟨g, q, none⟩ = w.cell? ⟨g, q, none⟩ := by
  unfold set5
  have e : ∀ (W : World) (a : Nat) (u : Value), a ≠ q → (W.setCell ⟨g, a, none⟩ u).cell? ⟨g, q, none⟩ = W.cell? ⟨g, q, none⟩ := fun W a u hn => World.cell?_setCell_other W _ _ u (fun e => hn (by injection e))
  rw [e _ _ _ (by omega), e _ _ _ (by omega), e _ _ _ (by omega), e _ _ _ (by omega), e _ _ _ (by omega)]
theorem set5_at {w : World} {g p : Nat} {z0 z1 z2 z3 z4 : Value} (h : At5 w g p z0 z1 z2 z3 z4) (c0 c1 c2 c3 c4 : Value) : At5 (set5 w g p c0 c1 c2 c3 c4) g p c0 c1 c2 c3 c4 := by
  obtain ⟨h0, h1, h2, h3, h4⟩ := h
  have e : ∀ (W : World) (a b : Nat) (u : Value), a ≠ b → (W.setCell ⟨g, a, none⟩ u).cell? ⟨g, b, none⟩ = W.cell? ⟨g, b, none⟩ := fun W a b u hn => World.cell?_setCell_other W _ _ u (fun e => hn (by injection e))
  refine ⟨?_, ?_, ?_, ?_, ?_⟩
  · unfold set5
    rw [e _ _ _ _ (by omega), e _ _ _ _ (by omega), e _ _ _ _ (by omega), e _ _ _ _ (by omega)]
    exact World.cell?_setCell_same _ _ _ h0
  · unfold set5
    rw [e _ _ _ _ (by omega), e _ _ _ _ (by omega), e _ _ _ _ (by omega)]
    exact World.cell?_setCell_same _ _ _ ((e _ _ _ _ (by omega)).trans h1)
  · unfold set5
    rw [e _ _ _ _ (by omega), e _ _ _ _ (by omega)]
    exact World.cell?_setCell_same _ _ _ ((e _ _ _ _ (by omega)).trans ((e _ _ _ _ (by omega)).trans h2))
  · unfold set5
    rw [e _ _ _ _ (by omega)]
    exact World.cell?_setCell_same _ _ _ ((e _ _ _ _ (by omega)).trans ((e _ _ _ _ (by omega)).trans ((e _ _ _ _ (by omega)).trans h3)))
  · unfold set5
    exact World.cell?_setCell_same _ _ _ ((e _ _ _ _ (by omega)).trans ((e _ _ _ _ (by omega)).trans ((e _ _ _ _ (by omega)).trans ((e _ _ _ _ (by omega)).trans h4))))
theorem set5_beside {w : World} {g p q : Nat} {d0 d1 d2 d3 d4 : Value} (h : At5 w g q d0 d1 d2 d3 d4) (c0 c1 c2 c3 c4 : Value) (hq : q + 5 ≤ p ∨ p + 5 ≤ q) : At5 (set5 w g p c0 c1 c2 c3 c4) g q d0 d1 d2 d3 d4 :=
  ⟨(set5_other _ _ _ _ _ _ _ _ _ (by omega)).trans h.1, (set5_other _ _ _ _ _ _ _ _ _ (by omega)).trans h.2.1, (set5_other _ _ _ _ _ _ _ _ _ (by omega)).trans h.2.2.1, (set5_other _ _ _ _ _ _ _ _ _ (by omega)).trans h.2.2.2.1, (set5_other _ _ _ _ _ _ _ _ _ (by omega)).trans h.2.2.2.2⟩
theorem set5_frozen (w : World) (g p : Nat) (c0 c1 c2 c3 c4 : Value) (a : Addr) : (set5 w g p c0 c1 c2 c3 c4).frozen? a = w.frozen? a := by
  unfold set5
  rw [World.frozen?_setCell, World.frozen?_setCell, World.frozen?_setCell, World.frozen?_setCell, World.frozen?_setCell]
theorem info25 : (Try.prog.info? 25).map (fun i => (i.zero, i.size, i.bytes)) = some (some (.agg #[.int .i64 0, .int .i64 0, .int .u64 0, .string ⟨#[]⟩, .slice none 0 0]), 5, 64) := by kernel_rfl
end Go.Proofs.Ytjmonkhkcmcfiaa
