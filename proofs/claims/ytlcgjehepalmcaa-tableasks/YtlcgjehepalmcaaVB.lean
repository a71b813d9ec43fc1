/- The contracts of the reference's Same and of the program's: both tell whether two trees are one. -/
import Derived.Test.YtlcgjehepalmcaaVA
import Derived.Deep.RegionWith
namespace Go.Proofs.Ytlcgjehepalmcaa
open Go.ChangeShapes Go.WideShapes Go.ChangeAt Go.RowKit
theorem tl_inj {s t : ByteArray} (h : s.toList = t.toList) : s = t := by
  rw [Lib.toList_data, Lib.toList_data] at h
  cases s
  cases t
  simpa using h
theorem len_of_ne {n m : Nat} (h : ((n : Int) != (m : Int)) = false) : n = m := by
  have : (n : Int) = (m : Int) := by simpa using h
  omega
theorem take_more {l m : List Tv} {j : Nat} (h1 : j < l.length) (h2 : j < m.length) (he : l.take j = m.take j) (h : l[j] = m[j]) : l.take (j + 1) = m.take (j + 1) := by
  rw [List.take_add_one, List.take_add_one, he, List.getElem?_eq_getElem h1, List.getElem?_eq_getElem h2, h]
theorem take_not {k x b : Int} {s : ByteArray} {l m : List Tv} {j : Nat} (h1 : j < l.length) (h2 : j < m.length) (h : ¬ l[j] = m[j]) : ¬ Tv.mk k x b s l = Tv.mk k x b s m := by
  intro e
  cases e
  exact h rfl
end Go.Proofs.Ytlcgjehepalmcaa
