/- A map of int whose elements are held as values. -/
import Derived.Test.YtfjcjaojbdcpeaaNA
import Derived.Maps.OwnSet
import Derived.Maps.OwnOps
import Derived.Maps.Views
namespace Go.Proofs.Ytfjcjaojbdcpeaa
open Go.ChangeShapes Go.WideShapes Go.ChangeAt Go.RowKit Go.Maps
/-- An element reads as itself. -/
def heldR (v : Value) : Option (DataW Value × List MemPlace) := some (.held v, [])
theorem intKeyed : Keyed Try.prog 3 := int_keyed Try.underlying3
/-- Block b is a map of int to content, of at most n entries, that reads as D. -/
def Zm (w : World) (b n : Nat) (D : DataW Value) : Prop := w.ownsMap Try.prog 3 heldR b n D
def zC : Value := .agg #[.slice none 0 0, .int .i64 0]
theorem zero65 (w : World) : (zeroValue 65).run Try.prog w = .ok zC w := by kernel_rfl
theorem keyI {k : Int} (h : (Lit.int .i64 k).wf = true) : keyOf Try.prog 3 (.int .i64 k) = some (.int .i64 k) := keyOf_int_mk Try.underlying3 h
/-- What the key k has. -/
theorem Zm.look {w : World} {b n : Nat} {D : DataW Value} (h : Zm w b n D) {k : Int} (hk : (Lit.int .i64 k).wf = true) : ∃ v, (Instr.lookup 55 (.map (some b)) (.int .i64 k) false).run Try.prog w = .ok v w ∧ D.atKey (.int .i64 k) (.held zC) = .held v := by
  obtain ⟨v, ps, hr, hv⟩ := World.ownsMap.lookup (P := Try.prog) h intKeyed Try.underlying55 (zero65 w) (zd := .held zC) (zp := []) rfl (keyI hk)
  exact ⟨v, hr, (congrArg Prod.fst (Option.some.inj hv)).symm⟩
theorem Zm.put {w : World} {b n : Nat} {D : DataW Value} (h : Zm w b n D) (hn : n < maxLen) {k : Int} (hk : (Lit.int .i64 k).wf = true) (v : Value) : ∃ w', (Instr.mapUpdate 55 (.map (some b)) (.int .i64 k) v).run Try.prog w = .ok () w' ∧ Zm w' b (n + 1) (D.put (.int .i64 k) (.held v)) ∧ w.mapTurned w' b :=
  World.ownsMap.store (P := Try.prog) h intKeyed Try.underlying55 hn (keyI hk) (show heldR v = some (.held v, []) from rfl)
theorem Zm.del {w : World} {b n : Nat} {D : DataW Value} (h : Zm w b n D) {k : Int} (hk : (Lit.int .i64 k).wf = true) (ty : TypeId) : ∃ w', (Builtin.delete_ #[55, 3] ty #[.map (some b), .int .i64 k]).run Try.prog w = .ok (.tuple #[]) w' ∧ Zm w' b n (D.del (.int .i64 k)) ∧ w.mapTurned w' b :=
  World.ownsMap.drop (P := Try.prog) h intKeyed Try.underlying55 (keyI hk) ty
theorem Zm.new (w : World) : Zm (w.alloc (.map #[] 0)) w.heap.size 0 (.map []) := World.ownsMap_made w Try.prog 3 heldR
end Go.Proofs.Ytfjcjaojbdcpeaa
