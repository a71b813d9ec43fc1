/- Rows, branches and events in memory. -/
import Derived.Test.YtkaaddahegkmgaaGreatRA
namespace Go.Proofs.YtkaaddahegkmgaaGreat
open Go.ChangeShapes Go.WideShapes Go.ChangeAt Go.RowKit
/-- A row: its key, its version, its bytes. -/
structure Rw where
  key : ByteArray
  ver : Int
  row : List UInt8
/-- A branch: its key, its events. -/
structure Bn where
  key : ByteArray
  ev : List (List UInt8)
def eb (x : UInt8) : Value := .int .u8 (x.toNat : Int)
/-- A slice whose bytes, in blocks of which P holds, are l. -/
def HB (P : Nat → Prop) (w : World) (v : Value) (l : List UInt8) : Prop :=
  ∃ p c, v = .slice p l.length c ∧ l.length ≤ c ∧ c ≤ 9223372036854775807 ∧ ∀ (i : Nat) x, l[i]? = some x → ∃ B o, p = some ⟨B, o, none⟩ ∧ P B ∧ w.cell? ⟨B, o + i, none⟩ = some (eb x)
theorem HB.keep {P P' : Nat → Prop} {w w' : World} {v : Value} {l : List UInt8} (h : HB P w v l) (hk : ∀ B, P B → B < w.heap.size → w'.heap[B]? = w.heap[B]? ∧ P' B) : HB P' w' v l := by
  obtain ⟨p, c, hv, h1, h2, h3⟩ := h
  refine ⟨p, c, hv, h1, h2, fun i x hx => ?_⟩
  obtain ⟨B, o, hp, hB, hc⟩ := h3 i x hx
  have hb := hk B hB (World.block_lt_of_cell? w ⟨B, o + i, none⟩ hc)
  exact ⟨B, o, hp, hb.2, (World.cell?_of_block hb.1).trans hc⟩
theorem HB.below {P : Nat → Prop} {w w' : World} {v : Value} {l : List UInt8} (h : HB P w v l) (hb : Below w.heap.size w w') : HB P w' v l := h.keep fun B hB hl => ⟨hb.block B hl, hB⟩
theorem HB.all {P P' : Nat → Prop} {w : World} {v : Value} {l : List UInt8} (h : HB P w v l) (hk : ∀ B, P B → P' B) : HB P' w v l := h.keep fun B hB _ => ⟨rfl, hk B hB⟩
theorem HB.nil (P : Nat → Prop) (w : World) : HB P w (.slice none 0 0) [] := ⟨none, 0, rfl, Nat.le_refl _, by omega, fun i x h => by simp at h⟩
theorem HB.one {P : Nat → Prop} {w : World} {v : Value} {l : List UInt8} (h : HB P w v l) : v.oneCell' = true := by
  obtain ⟨p, c, rfl, _⟩ := h
  rfl
theorem HB.shape {P : Nat → Prop} {w : World} {v : Value} {l : List UInt8} (h : HB P w v l) : ∃ a c, v = .slice a l.length c ∧ l.length ≤ c ∧ c ≤ 9223372036854775807 := by
  obtain ⟨p, c, hv, h1, h2, _⟩ := h
  exact ⟨p, c, hv, h1, h2⟩
theorem HB.bytes {P : Nat → Prop} {w : World} {v : Value} {l : List UInt8} (h : HB P w v l) : Lib.HoldsBytes w v l := by
  obtain ⟨p, c, rfl, h1, h2, h3⟩ := h
  refine ⟨p, c, rfl, fun e => ?_, fun a ha i x hx => ?_⟩
  · match l, h3 with
    | [], _ => rfl
    | x :: l, h3 => obtain ⟨B, o, hp, _⟩ := h3 0 x rfl; rw [hp] at e; cases e
  · obtain ⟨B, o, hp, _, hc⟩ := h3 i x hx
    rw [hp] at ha
    cases ha
    rw [add_plain]
    exact hc
/-- An event in a list: a slice of bytes. -/
def evE : El (List UInt8) where
  K := 1
  ty := 26
  I := fun P w cs x => ∃ v, cs = [v] ∧ HB P w v x
  len := fun ⟨_, h, _⟩ => by rw [h]; rfl
  one := fun ⟨v, h, hv⟩ z hz => by
    rw [h] at hz
    obtain rfl := List.mem_singleton.1 hz
    exact hv.one
  keep := fun ⟨v, h, hv⟩ hk => ⟨v, h, hv.keep hk⟩
/-- A row in a list. -/
def rowE : El Rw where
  K := 3
  ty := 47
  I := fun P w cs x => ∃ v, cs = [.string x.key, .int .i64 x.ver, v] ∧ HB P w v x.row
  len := fun ⟨_, h, _⟩ => by rw [h]; rfl
  one := fun ⟨v, h, hv⟩ z hz => by
    rw [h] at hz
    simp only [List.mem_cons, List.not_mem_nil, or_false] at hz
    rcases hz with rfl | rfl | rfl
    · rfl
    · rfl
    · exact hv.one
  keep := fun ⟨v, h, hv⟩ hk => ⟨v, h, hv.keep hk⟩
/-- A branch in a list. -/
def brE : El Bn where
  K := 2
  ty := 39
  I := fun P w cs x => ∃ v, cs = [.string x.key, v] ∧ Sl evE P w v x.ev
  len := fun ⟨_, h, _⟩ => by rw [h]; rfl
  one := fun ⟨v, h, hv⟩ z hz => by
    rw [h] at hz
    simp only [List.mem_cons, List.not_mem_nil, or_false] at hz
    rcases hz with rfl | rfl
    · rfl
    · exact hv.one
  keep := fun ⟨v, h, hv⟩ hk => ⟨v, h, hv.keep hk⟩
theorem Ls.ev {P : Nat → Prop} {w : World} {a : Option Addr} {xs : List (List UInt8)} (h : Ls evE P w a xs) (i : Nat) (x) (hx : xs[i]? = some x) : ∃ B o v, a = some ⟨B, o, none⟩ ∧ P B ∧ w.cell? ⟨B, o + i, none⟩ = some v ∧ HB P w v x := by
  obtain ⟨B, o, cs, ha, hB, hc, v, rfl, hv⟩ := h i x hx
  have h0 := hc 0 _ rfl
  exact ⟨B, o, v, ha, hB (by decide), by simpa [evE] using h0, hv⟩
theorem Ls.row {P : Nat → Prop} {w : World} {a : Option Addr} {xs : List Rw} (h : Ls rowE P w a xs) (i : Nat) (x) (hx : xs[i]? = some x) : ∃ B o v, a = some ⟨B, o, none⟩ ∧ P B ∧ w.cell? ⟨B, o + i * 3, none⟩ = some (.string x.key) ∧ w.cell? ⟨B, o + i * 3 + 1, none⟩ = some (.int .i64 x.ver) ∧ w.cell? ⟨B, o + i * 3 + 2, none⟩ = some v ∧ HB P w v x.row := by
  obtain ⟨B, o, cs, ha, hB, hc, v, rfl, hv⟩ := h i x hx
  exact ⟨B, o, v, ha, hB (by decide), hc 0 _ rfl, hc 1 _ rfl, hc 2 _ rfl, hv⟩
theorem Ls.br {P : Nat → Prop} {w : World} {a : Option Addr} {xs : List Bn} (h : Ls brE P w a xs) (i : Nat) (x) (hx : xs[i]? = some x) : ∃ B o v, a = some ⟨B, o, none⟩ ∧ P B ∧ w.cell? ⟨B, o + i * 2, none⟩ = some (.string x.key) ∧ w.cell? ⟨B, o + i * 2 + 1, none⟩ = some v ∧ Sl evE P w v x.ev := by
  obtain ⟨B, o, cs, ha, hB, hc, v, rfl, hv⟩ := h i x hx
  exact ⟨B, o, v, ha, hB (by decide), hc 0 _ rfl, hc 1 _ rfl, hv⟩
/-- Rows as data. -/
structure Db where
  rows : List Rw
  brs : List Bn
/-- v is the rows r, in blocks of which P holds. -/
def IsR (P : Nat → Prop) (w : World) (v : Value) (r : Db) : Prop := ∃ u b, v = .agg #[u, b] ∧ Sl rowE P w u r.rows ∧ Sl brE P w b r.brs
theorem IsR.keep {P P' : Nat → Prop} {w w' : World} {v : Value} {r : Db} (h : IsR P w v r) (hk : ∀ B, P B → B < w.heap.size → w'.heap[B]? = w.heap[B]? ∧ P' B) : IsR P' w' v r := by
  obtain ⟨u, b, hv, h1, h2⟩ := h
  exact ⟨u, b, hv, h1.keep hk, h2.keep hk⟩
theorem IsR.below {P : Nat → Prop} {w w' : World} {v : Value} {r : Db} (h : IsR P w v r) (hb : Below w.heap.size w w') : IsR P w' v r := h.keep fun B hB hl => ⟨hb.block B hl, hB⟩
end Go.Proofs.YtkaaddahegkmgaaGreat
