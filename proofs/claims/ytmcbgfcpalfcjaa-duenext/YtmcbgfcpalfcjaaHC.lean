/- The reference's in, hasDue, hasName, hasText, hasValue, hasPolicy, num, name. -/
import Derived.Test.YtmcbgfcpalfcjaaMB
namespace Go.Proofs.Ytmcbgfcpalfcjaa
open Go.ChangeShapes Go.WideShapes Go.ChangeAt Go.RowKit
theorem rtext_calls (s : ByteArray) (w : World) : Calls Try.prog 16 #[.string s] w fun e w' => e = .returned (.bool (decide (s.size ≤ 200))) ∧ w' = w := by
  by_cases h : s.size ≤ 200
  · have h1 : (s.size : Int) ≤ 200 := by omega
    go_enter Try.func16, Try.ntmps16
    go_wp2
    go_ret
    simp [h]
  · have h1 : ¬ (s.size : Int) ≤ 200 := by omega
    go_enter Try.func16, Try.ntmps16
    go_wp2
    go_ret
    simp
end Go.Proofs.Ytmcbgfcpalfcjaa
