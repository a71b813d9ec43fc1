/- The walk of ValueMakes. -/
import Derived.Test.YtobblioplfpndaaYH
import Derived.Test.YtobblioplfpndaaVS
import Derived.Deep.RegionHeld3
import Derived.Deep.DeepCutAuto
namespace Go.Proofs.Ytobblioplfpndaa
open Go.ChangeShapes Go.WideShapes Go.ChangeAt Go.RowKit Go.BigFrame
/-- Ten cells: two values. -/
def Two (W : World) (g : Nat) (k x b : Int) (s : ByteArray) (a : Option Addr) (m c : Nat) (k2 x2 b2 : Int) (s2 : ByteArray) (a2 : Option Addr) (m2 c2 : Nat) : Prop := At5 W g 0 (.int .i64 k) (.int .i64 x) (.int .u64 b) (.string s) (.slice a m c) ∧ At5 W g 5 (.int .i64 k2) (.int .i64 x2) (.int .u64 b2) (.string s2) (.slice a2 m2 c2)
theorem two_new (W : World) (g : Nat) (hg : g = W.heap.size) (k x b : Int) (s : ByteArray) (a : Option Addr) (m c : Nat) (k2 x2 b2 : Int) (s2 : ByteArray) (a2 : Option Addr) (m2 c2 : Nat) : Two (W.alloc (.cells #[.int .i64 k, .int .i64 x, .int .u64 b, .string s, .slice a m c, .int .i64 k2, .int .i64 x2, .int .u64 b2, .string s2, .slice a2 m2 c2] 25)) g k x b s a m c k2 x2 b2 s2 a2 m2 c2 := by
  subst hg
  have f : ∀ j, (W.alloc (.cells #[.int .i64 k, .int .i64 x, .int .u64 b, .string s, .slice a m c, .int .i64 k2, .int .i64 x2, .int .u64 b2, .string s2, .slice a2 m2 c2] 25)).cell? ⟨W.heap.size, j, none⟩ = (#[.int .i64 k, .int .i64 x, .int .u64 b, .string s, .slice a m c, .int .i64 k2, .int .i64 x2, .int .u64 b2, .string s2, .slice a2 m2 c2] : Array Value)[j]? := fun j => by go_simp
  exact ⟨⟨f 0, f 1, f 2, f 3, f 4⟩, ⟨f 5, f 6, f 7, f 8, f 9⟩⟩
theorem Two.below {W W' : World} {g : Nat} {k x b : Int} {s : ByteArray} {a : Option Addr} {m c : Nat} {k2 x2 b2 : Int} {s2 : ByteArray} {a2 : Option Addr} {m2 c2 : Nat} (h : Two W g k x b s a m c k2 x2 b2 s2 a2 m2 c2) (hb : Below W.heap.size W W') : Two W' g k x b s a m c k2 x2 b2 s2 a2 m2 c2 := ⟨h.1.below hb, h.2.below hb⟩
end Go.Proofs.Ytobblioplfpndaa
