/- The walk of BranchFinds. -/
import Derived.Test.YtdlllehoeodekaaQ
namespace Go.Proofs.Ytdlllehoeodekaa
open Go.ChangeAt Go.ChangeShapes Go.Deep Go.RowKit Go.WideShapes
theorem isC_self (ys : List Ev) : IsC ys ys ys.length := ⟨Nat.le_refl _, Nat.le_refl _, fun _ _ => rfl, fun h => by omega⟩
theorem rsame_self (a a2 : Option Addr) (c c2 NN m : Nat) (rs rs2 : List Rw) (ys : List Ev) (hm : ys.length = m) (hl : m ≤ 1000) (w : World) (h1 : rs.length = ys.length) (h2 : rs2.length = ys.length) (hR : RowE w a rs) (hR2 : RowE w a2 rs2) (hE : ∀ i, IsE w NN (rx rs i) (ex ys i)) (hE2 : ∀ i, IsE w NN (rx rs2 i) (ex ys i)) :
    Calls Try.prog 8 #[.slice a m c, .slice a2 m c2] w fun e w' => e = .returned (.bool true) ∧ Below w.heap.size w w' := by
  refine (rsameL_calls a a2 c c2 NN rs rs2 ys ys m m (by omega) (by omega) hl hl w hR hE h1 hR2 hE2 h2).mono ?_
  rintro e w' ⟨⟨b, rfl, hb⟩, hbl⟩
  have : b = true := hb.2 ⟨rfl, by rw [← hm]; exact isC_self ys⟩
  subst this
  exact ⟨rfl, hbl⟩
theorem Hh.up {w : World} {N N' : Nat} {a : Option Addr} {hs : List Rw} {ys : List Ev} (h : Hh w N a hs ys) (hn : N ≤ N') : Hh w N' a hs ys := ⟨h.len, h.row, fun i => by
    obtain ⟨tv, e, hi⟩ := h.isE i
    exact ⟨tv, e, hi.up (by omega)⟩, fun i => (h.sml i).up (by omega)⟩
end Go.Proofs.Ytdlllehoeodekaa
