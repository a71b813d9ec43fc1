/- What a state in memory is: an array of cells, with its parts; that it stays. -/
import Derived.Test.YtcdhlklmnnmpoaaGreatSM
import Derived.Laws.Rows
import Derived.Laws.Tables
import Derived.Laws.OwnMore
namespace Go.Proofs.YtcdhlklmnnmpoaaGreat
open Go.ChangeShapes Go.WideShapes Go.ChangeAt Go.RowKit
/-- A timer. -/
structure Tm where
  s : ByteArray
  d : Int
/-- An update. -/
structure Up where
  s : ByteArray
  v : Tv
  g : Int
  o : Tv
/-- A state. -/
structure Sta where
  run : Int
  status : Int
  count : Int
  time : Int
  dl : Int
  fr : Int
  sig : Int
  typ : ByteArray
  inp : Tv
  pf : Int
  pc : Nat
  pm : Int
  ts : Int
  ta : Int
  td : Int
  te : Int
  tn : Int
  fresh : Bool
  cancel : Bool
  tm : List Tm
  up : List Up
  res : Tv
  rea : ByteArray
/-- A timer's two cells. -/
def Tm.cells (t : Tm) : Array Value := #[.string t.s, .int .i64 t.d]
/-- The cells of cs lie at p of block B. -/
def Lies (w : World) (B p : Nat) (cs : Array Value) : Prop := ∀ j v, cs[j]? = some v → w.cell? ⟨B, p + j, none⟩ = some v
theorem Lies.keep {w w' : World} {B p : Nat} {cs : Array Value} (h : Lies w B p cs) (hb : ∀ a v, a.block = B → w.cell? a = some v → w'.cell? a = some v) : Lies w' B p cs := fun j v hj => hb _ _ rfl (h j v hj)
theorem Lies.below {w w' : World} {B p : Nat} {cs : Array Value} (h : Lies w B p cs) (hb : Below w.heap.size w w') : Lies w' B p cs := fun j v hj => (hb.cell (World.block_lt_of_cell? w _ (h j v hj))).trans (h j v hj)
theorem Lies.row {w : World} {g : Nat} {cs : Array Value} {t : TypeId} {fr : Nat × Nat} (h : w.heap[g]? = some (.cells cs t fr)) : Lies w g 0 cs := fun j v hj => by
  rw [Nat.zero_add, cell_of_row w g j cs t fr h]
  exact hj
/-- Rows of k cells each lie one behind the other. -/
def RowS (ok : Nat → Prop) (w : World) (a : Option Addr) (k : Nat) (rows : List (Array Value)) : Prop :=
  ∀ i r, rows[i]? = some r → r.size = k ∧ (∀ (j : Nat) (v : Value), r[j]? = some v → v.oneCell' = true) ∧ ∃ B o, a = some ⟨B, o, none⟩ ∧ ok B ∧ Lies w B (o + i * k) r
theorem RowS.map {ok ok' : Nat → Prop} {w w' : World} {a : Option Addr} {k : Nat} {rows : List (Array Value)} (hok : ∀ B, B < w.heap.size → ok B → ok' B) (hc : ∀ a v, ok a.block → w.cell? a = some v → w'.cell? a = some v) (hk : 0 < k) (h : RowS ok w a k rows) : RowS ok' w' a k rows := fun i r hr => by
  obtain ⟨h1, h2, B, o, ha, hB, hl⟩ := h i r hr
  have h0 := hl 0 _ (Array.getElem?_eq_getElem (by omega))
  exact ⟨h1, h2, B, o, ha, hok B (World.block_lt_of_cell? w _ h0) hB, hl.keep fun a v e hv => hc a v (by rw [e]; exact hB) hv⟩
/-- Five cells of cs from p on are the value t. -/
def V5 (R : Value → Tv → Prop) (cs : Array Value) (p : Nat) (t : Tv) : Prop :=
  ∃ k x b s a m c, cs[p]? = some (.int .i64 k) ∧ cs[p + 1]? = some (.int .i64 x) ∧ cs[p + 2]? = some (.int .u64 b) ∧ cs[p + 3]? = some (.string s) ∧ cs[p + 4]? = some (.slice a m c) ∧ R (.agg #[.int .i64 k, .int .i64 x, .int .u64 b, .string s, .slice a m c]) t
theorem V5.map {R R' : Value → Tv → Prop} {cs : Array Value} {p : Nat} {t : Tv} (hR : ∀ v, R v t → R' v t) (h : V5 R cs p t) : V5 R' cs p t := by
  obtain ⟨k, x, b, s, a, m, c, h0, h1, h2, h3, h4, h5⟩ := h
  exact ⟨k, x, b, s, a, m, c, h0, h1, h2, h3, h4, hR _ h5⟩
/-- Twelve cells are an update. -/
structure IsU (R : Value → Tv → Prop) (us : Array Value) (u : Up) : Prop where
  size : us.size = 12
  c0 : us[0]? = some (.string u.s)
  v : V5 R us 1 u.v
  c6 : us[6]? = some (.int .i64 u.g)
  o : V5 R us 7 u.o
theorem IsU.map {R R' : Value → Tv → Prop} {us : Array Value} {u : Up} (hR : ∀ v t, R v t → R' v t) (h : IsU R us u) : IsU R' us u :=
  ⟨h.size, h.c0, h.v.map fun v => hR v _, h.c6, h.o.map fun v => hR v _⟩
/-- Thirty-one cells are a state, its lists in blocks that are ok. -/
structure IsS (ok : Nat → Prop) (R : Value → Tv → Prop) (w : World) (cs : Array Value) (s : Sta) : Prop where
  size : cs.size = 31
  c0 : cs[0]? = some (.int .i64 s.run)
  c1 : cs[1]? = some (.int .i64 s.status)
  c2 : cs[2]? = some (.int .i64 s.count)
  c3 : cs[3]? = some (.int .i64 s.time)
  c4 : cs[4]? = some (.int .i64 s.dl)
  c5 : cs[5]? = some (.int .i64 s.fr)
  c6 : cs[6]? = some (.int .i64 s.sig)
  c7 : cs[7]? = some (.string s.typ)
  inp : V5 R cs 8 s.inp
  c13 : cs[13]? = some (.int .i64 s.pf)
  c14 : cs[14]? = some (.int .u64 (s.pc : Int))
  c15 : cs[15]? = some (.int .i64 s.pm)
  c16 : cs[16]? = some (.int .i64 s.ts)
  c17 : cs[17]? = some (.int .i64 s.ta)
  c18 : cs[18]? = some (.int .i64 s.td)
  c19 : cs[19]? = some (.int .i64 s.te)
  c20 : cs[20]? = some (.int .i64 s.tn)
  c21 : cs[21]? = some (.bool s.fresh)
  c22 : cs[22]? = some (.bool s.cancel)
  tm : ∃ a c, cs[23]? = some (.slice a s.tm.length c) ∧ RowS ok w a 2 (s.tm.map Tm.cells)
  up : ∃ a c us, cs[24]? = some (.slice a s.up.length c) ∧ us.length = s.up.length ∧ RowS ok w a 12 us ∧ ∀ (i : Nat) r u, us[i]? = some r → s.up[i]? = some u → IsU R r u
  res : V5 R cs 25 s.res
  c30 : cs[30]? = some (.string s.rea)
theorem IsS.map {ok ok' : Nat → Prop} {R R' : Value → Tv → Prop} {w w' : World} {cs : Array Value} {s : Sta} (hok : ∀ B, B < w.heap.size → ok B → ok' B) (hc : ∀ a v, ok a.block → w.cell? a = some v → w'.cell? a = some v) (hR : ∀ v t, R v t → R' v t) (h : IsS ok R w cs s) : IsS ok' R' w' cs s := by
  obtain ⟨a, c, h1, h2⟩ := h.tm
  obtain ⟨ua, uc, us, g1, g2, g3, g4⟩ := h.up
  exact { size := h.size, c0 := h.c0, c1 := h.c1, c2 := h.c2, c3 := h.c3, c4 := h.c4, c5 := h.c5, c6 := h.c6, c7 := h.c7, c13 := h.c13, c14 := h.c14, c15 := h.c15, c16 := h.c16, c17 := h.c17, c18 := h.c18, c19 := h.c19, c20 := h.c20, c21 := h.c21, c22 := h.c22, c30 := h.c30, inp := h.inp.map fun v => hR v _, res := h.res.map fun v => hR v _, tm := ⟨a, c, h1, h2.map hok hc (by decide)⟩, up := ⟨ua, uc, us, g1, g2, g3.map hok hc (by decide), fun i r u hr hu => (g4 i r u hr hu).map hR⟩ }
/-- A state that is read. -/
def Rs (w : World) (n : Nat) (cs : Array Value) (s : Sta) : Prop := IsS (fun _ => True) (Is w n) w cs s
/-- Blocks from lo on that may be written. -/
def Free (lo : Nat) (w : World) (B : Nat) : Prop := lo ≤ B ∧ ∀ p, w.frozen? ⟨B, p, none⟩ = false
/-- A state whose lists are the call's own. -/
def Os (lo : Nat) (w : World) (n : Nat) (cs : Array Value) (s : Sta) : Prop := IsS (Free lo w) (IsM lo w n) w cs s
theorem Rs.below {w w' : World} {n : Nat} {cs : Array Value} {s : Sta} (h : Rs w n cs s) (hb : Below w.heap.size w w') : Rs w' n cs s :=
  IsS.map (fun _ _ h => h) (fun _ _ _ hv => (hb.cell (World.block_lt_of_cell? w _ hv)).trans hv) (fun _ _ h => h.below hb) h
theorem Os.rs {lo : Nat} {w : World} {n : Nat} {cs : Array Value} {s : Sta} (h : Os lo w n cs s) : Rs w n cs s :=
  IsS.map (fun _ _ _ => trivial) (fun _ _ _ hv => hv) (fun _ _ h => h.is) h
theorem Os.kb {g lo : Nat} {w w' : World} {n : Nat} {cs : Array Value} {s : Sta} (h : Os lo w n cs s) (hb : KB g w w') (hg : g < lo) : Os lo w' n cs s :=
  IsS.map (fun B hB h => ⟨h.1, fun p => (hb.frozen (a := ⟨B, p, none⟩) hB (show B ≠ g by have := h.1; omega)).trans (h.2 p)⟩) (fun a v h hv => hb.cell hv (by have := h.1; omega)) (fun _ _ h => h.kb hb hg) h
theorem Os.below {lo : Nat} {w w' : World} {n : Nat} {cs : Array Value} {s : Sta} (h : Os (lo + 1) w n cs s) (hb : Below w.heap.size w w') : Os (lo + 1) w' n cs s := h.kb (KB.of_below hb) (Nat.lt_succ_self lo)
theorem Os.lower {lo lo' : Nat} {w : World} {n : Nat} {cs : Array Value} {s : Sta} (h : Os lo w n cs s) (hl : lo' ≤ lo) : Os lo' w n cs s :=
  IsS.map (fun _ _ h => ⟨Nat.le_trans hl h.1, h.2⟩) (fun _ _ _ hv => hv) (fun _ _ h => h.lower hl) h
/-- Five cells of an array. -/
def put5 (cs : Array Value) (p : Nat) (c0 c1 c2 c3 c4 : Value) : Array Value := ((((cs.setIfInBounds p c0).setIfInBounds (p + 1) c1).setIfInBounds (p + 2) c2).setIfInBounds (p + 3) c3).setIfInBounds (p + 4) c4
theorem put5_size (cs : Array Value) (p : Nat) (c0 c1 c2 c3 c4 : Value) : (put5 cs p c0 c1 c2 c3 c4).size = cs.size := by simp [put5]
theorem put5_other (cs : Array Value) (p q : Nat) (c0 c1 c2 c3 c4 : Value) (h : q < p ∨ p + 5 ≤ q) : (put5 cs p c0 c1 c2 c3 c4)[q]? = cs[q]? := by
  unfold put5
  rw [Array.getElem?_setIfInBounds_ne (by omega), Array.getElem?_setIfInBounds_ne (by omega), Array.getElem?_setIfInBounds_ne (by omega), Array.getElem?_setIfInBounds_ne (by omega), Array.getElem?_setIfInBounds_ne (by omega)]
theorem put5_v5 {R : Value → Tv → Prop} {cs : Array Value} {p : Nat} {k x b : Int} {s : ByteArray} {a : Option Addr} {m c : Nat} {t : Tv} (hp : p + 5 ≤ cs.size) (h : R (.agg #[.int .i64 k, .int .i64 x, .int .u64 b, .string s, .slice a m c]) t) : V5 R (put5 cs p (.int .i64 k) (.int .i64 x) (.int .u64 b) (.string s) (.slice a m c)) p t := by
  refine ⟨k, x, b, s, a, m, c, ?_, ?_, ?_, ?_, ?_, h⟩ <;> unfold put5 <;> simp [Array.getElem?_setIfInBounds] <;> omega
theorem V5.other {R : Value → Tv → Prop} {cs ds : Array Value} {p : Nat} {t : Tv} (h : V5 R cs p t) (he : ∀ q, p ≤ q → q < p + 5 → ds[q]? = cs[q]?) : V5 R ds p t := by
  obtain ⟨k, x, b, s, a, m, c, h0, h1, h2, h3, h4, h5⟩ := h
  exact ⟨k, x, b, s, a, m, c, (he _ (by omega) (by omega)).trans h0, (he _ (by omega) (by omega)).trans h1, (he _ (by omega) (by omega)).trans h2, (he _ (by omega) (by omega)).trans h3, (he _ (by omega) (by omega)).trans h4, h5⟩
theorem set5_row {w : World} {g p t : Nat} {cs : Array Value} (h : w.heap[g]? = some (.cells cs t (0, 0))) (c0 c1 c2 c3 c4 : Value) : (set5 w g p c0 c1 c2 c3 c4).heap[g]? = some (.cells (put5 cs p c0 c1 c2 c3 c4) t (0, 0)) := by
  have h0 := heap_setCell_same w g p _ t c0 h
  have h1 := heap_setCell_same _ g (p + 1) _ t c1 h0
  have h2 := heap_setCell_same _ g (p + 2) _ t c2 h1
  have h3 := heap_setCell_same _ g (p + 3) _ t c3 h2
  exact heap_setCell_same _ g (p + 4) _ t c4 h3
theorem row_below {W w' : World} (hb : Below W.heap.size W w') {g : Nat} {o : Obj} (h : W.heap[g]? = some o) : w'.heap[g]? = some o := by
  rw [hb.block g (by rcases Nat.lt_or_ge g W.heap.size with h2 | h2; exact h2; rw [Array.getElem?_eq_none h2] at h; cases h), h]
theorem row_cell {w : World} {g j t : Nat} {cs : Array Value} {fr : Nat × Nat} {v : Value} (h : w.heap[g]? = some (.cells cs t fr)) (hj : cs[j]? = some v) : w.cell? ⟨g, j, none⟩ = some v := by
  rw [cell_of_row w g j cs t fr h]
  exact hj
theorem row_kb {g B : Nat} {w w' : World} {o : Obj} (h : w.heap[B]? = some o) (hb : KB g w w') (hg : B ≠ g) : w'.heap[B]? = some o := by
  rw [hb.2.2.2.2 B (by rcases Nat.lt_or_ge B w.heap.size with h2 | h2; exact h2; rw [Array.getElem?_eq_none h2] at h; cases h) hg, h]
end Go.Proofs.YtcdhlklmnnmpoaaGreat
