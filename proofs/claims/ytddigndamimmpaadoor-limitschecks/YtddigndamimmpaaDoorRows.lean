/-
  NARROWER THAN 'FOR EVERY INPUT', by the rows' own cells (each row's printed sentence says how): LimitsChecks: loops, laid · LimitsFields: laid · LimitsApart: loops, laid.
  DERIVED. THE GIVEN ROWS OF THIS SEAT. 3 by the template 'for every input the law returns true; each argument reads behind the call as it read before'; 0 by the template 'total and deterministic' (their statements: YtddigndamimmpaaDoorTotals.lean).
  GIVEN WITH THE SEED: the statements are not yours to turn. If you find one false, say at which input.
  Laid BY PROGRAM, IN A SANDBOX (cutbox-rows.mjs): the forced cells as the released guide's own fill.sh prints them over the translation 6ceac8254003de55… (all of the seat's roots in one cut). By AI agents, Wed Nov 11 2026. No macro, syntax, notation, axiom, sorry.
-/
import Derived.Test.YtddigndamimmpaaDoorChecked
import GoSem.Claim
import GoSem.ClaimJoined
import GoSem.ClaimMapViews
import Derived.JoinedTies
import Derived.KernelRfl
namespace Go.Proofs.YtddigndamimmpaaDoor
/- THE CELL 'sum', in the pinned program and in every row, IS THE sha256 OF THE DUMP (.gsa) THAT YtddigndamimmpaaDoorProg.lean LOADS. Nothing in Lean hashes anything: it is a label: what it is worth is what the hold of that sum in a sandbox is worth. -/
noncomputable def Tryd.pinned : Pinned := { name := "ytddigndamimmpaadoor", sum := "6ceac8254003de55e0c424f92d6f44c7501849d270a39697e43e14e7170e576e", checked := Tryd.checked }
namespace Rows
def none {H : Type} : Left H := { results := [], args := [] }

/- WHAT THE LISTED PACKAGE-LEVEL VARIABLES READ AS WHEN THE CALL BEGINS. Each datum BY PROGRAM (the guide's laid-datum.mjs) off the statement by which the dump's own 'gosem.cut.vars' lays the variable. In a bare row this is a premise. The card (YtddigndamimmpaaDoorCards.lean) ties it to the program's text. -/
def laid_usher_limits_fields {H : Type} : DataW H := .agg [.lit (.int .i64 0), .lit (.int .i64 175), .lit (.int .i64 15), .lit (.int .i64 175), .lit (.int .i64 77), .lit (.int .i64 107), .lit (.int .i64 3), .lit (.int .i64 7), .lit (.int .i64 35), .lit (.int .i64 1), .lit (.int .i64 33), .lit (.int .i64 305), .lit (.int .i64 53), .lit (.int .i64 1)]
def laid_usher_limits_nums {H : Type} : DataW H := .agg [.agg [.lit (.int .i64 0), .lit (.int .i64 0)], .agg [.lit (.int .i64 0), .lit (.int .i64 1073741824)], .agg [.lit (.int .i64 0), .lit (.int .i64 0)], .agg [.lit (.int .i64 0), .lit (.int .i64 1073741824)], .agg [.lit (.int .i64 0), .lit (.int .i64 0)], .agg [.lit (.int .i64 1), .lit (.int .i64 2)], .agg [.lit (.int .i64 0), .lit (.int .i64 0)], .agg [.lit (.int .i64 0), .lit (.int .i64 0)], .agg [.lit (.int .i64 1), .lit (.int .i64 120)], .agg [.lit (.int .i64 0), .lit (.int .i64 0)], .agg [.lit (.int .i64 1), .lit (.int .i64 1073741824)], .agg [.lit (.int .i64 0), .lit (.int .i64 120)], .agg [.lit (.int .i64 1), .lit (.int .i64 120)], .agg [.lit (.int .i64 0), .lit (.int .i64 0)]]

/-- 'usherlaw28.LimitsChecks': WHATEVER THE INPUT: true; the input reads as it did. -/
def limitsChecksSpec : ChangeSpec := { name := "limitsChecks", fn := fun _ => fun
  | [d] => { results := [.lit (.bool true)], args := [d] }
  | _ => none }
def limitsChecksRow : OpenClaim := { program := "ytddigndamimmpaadoor", sum := "6ceac8254003de55e0c424f92d6f44c7501849d270a39697e43e14e7170e576e", func := "usher/usherlaw28.LimitsChecks", spec := "limitsChecks", inPlace := ["math.Float64frombits", "math.Float64bits"], unfollowed := true, recurses := true, named := ["usher/limits.fields", "usher/limits.nums"], loops := true, apart := false, laid := [("usher/limits.fields", laid_usher_limits_fields), ("usher/limits.nums", laid_usher_limits_nums)] }
def LimitsChecksSaid : Prop := limitsChecksRow.holds Tryd.pinned (OpenSpec.ofChange limitsChecksSpec)

/-- ITS FALSE NEIGHBOUR: 'it returns false'. Refute it at one input. -/
def limitsChecksWrong : ChangeSpec := { name := "limitsChecks", fn := fun _ => fun
  | [d] => { results := [.lit (.bool false)], args := [d] }
  | _ => none }
def LimitsChecksWrongFalsely : Prop := limitsChecksRow.holds Tryd.pinned (OpenSpec.ofChange limitsChecksWrong)

/-- 'usherlaw28.LimitsFields': WHATEVER THE INPUT: true; the input reads as it did. -/
def limitsFieldsSpec : ChangeSpec := { name := "limitsFields", fn := fun _ => fun
  | [d] => { results := [.lit (.bool true)], args := [d] }
  | _ => none }
def limitsFieldsRow : OpenClaim := { program := "ytddigndamimmpaadoor", sum := "6ceac8254003de55e0c424f92d6f44c7501849d270a39697e43e14e7170e576e", func := "usher/usherlaw28.LimitsFields", spec := "limitsFields", inPlace := ["math.Float64frombits", "math.Float64bits"], unfollowed := true, recurses := true, named := ["usher/limits.fields", "usher/limits.nums"], apart := false, laid := [("usher/limits.fields", laid_usher_limits_fields), ("usher/limits.nums", laid_usher_limits_nums)] }
def LimitsFieldsSaid : Prop := limitsFieldsRow.holds Tryd.pinned (OpenSpec.ofChange limitsFieldsSpec)

/-- ITS FALSE NEIGHBOUR: 'it returns false'. Refute it at one input. -/
def limitsFieldsWrong : ChangeSpec := { name := "limitsFields", fn := fun _ => fun
  | [d] => { results := [.lit (.bool false)], args := [d] }
  | _ => none }
def LimitsFieldsWrongFalsely : Prop := limitsFieldsRow.holds Tryd.pinned (OpenSpec.ofChange limitsFieldsWrong)

/-- 'usherlaw28.LimitsApart': WHATEVER THE INPUT: true; the input reads as it did. -/
def limitsApartSpec : ChangeSpec := { name := "limitsApart", fn := fun _ => fun
  | [d1, d2] => { results := [.lit (.bool true)], args := [d1, d2] }
  | _ => none }
def limitsApartRow : OpenClaim := { program := "ytddigndamimmpaadoor", sum := "6ceac8254003de55e0c424f92d6f44c7501849d270a39697e43e14e7170e576e", func := "usher/usherlaw28.LimitsApart", spec := "limitsApart", inPlace := ["math.Float64frombits", "math.Float64bits"], unfollowed := true, recurses := true, named := ["usher/limits.fields", "usher/limits.nums"], loops := true, apart := false, laid := [("usher/limits.fields", laid_usher_limits_fields), ("usher/limits.nums", laid_usher_limits_nums)] }
def LimitsApartSaid : Prop := limitsApartRow.holds Tryd.pinned (OpenSpec.ofChange limitsApartSpec)

/-- ITS FALSE NEIGHBOUR: 'it returns false'. Refute it at one input. -/
def limitsApartWrong : ChangeSpec := { name := "limitsApart", fn := fun _ => fun
  | [d1, d2] => { results := [.lit (.bool false)], args := [d1, d2] }
  | _ => none }
def LimitsApartWrongFalsely : Prop := limitsApartRow.holds Tryd.pinned (OpenSpec.ofChange limitsApartWrong)

/- THE SECOND FORM. 'bulk': how many values and letters a reading holds, each counted each time it is reached (what is shared counts as often as it is met; a slice's spare places count too). A statement '..UptoSaid' is the law's where the arguments, and the package variables that the reading takes, are together of bulk at most 1048576: NARROWER than '..Said'. Prove '..Said' where nothing that the law and all that it calls make is longer than what came in: it says more and counts as full. Else prove '..UptoSaid'. A law counts once. -/
mutual
def uptoBulk {H : Type} : DataW H → Nat
  | .lit (.string bytes) => bytes.length + 1
  | .lit _ => 1
  | .nil => 1
  | .ptr d => uptoBulk d + 1
  | .slice elems spare => uptoBulkAll elems + uptoBulkAll spare + 1
  | .agg parts => uptoBulkAll parts + 1
  | .iface _ d => uptoBulk d + 1
  | .map entries => uptoBulkEntries entries + 1
  | .held _ => 1
def uptoBulkAll {H : Type} : List (DataW H) → Nat
  | [] => 0
  | d :: r => uptoBulk d + uptoBulkAll r
def uptoBulkEntries {H : Type} : List (Lit × DataW H) → Nat
  | [] => 0
  | x :: r => uptoBulkEntry x + uptoBulkEntries r
def uptoBulkEntry {H : Type} : Lit × DataW H → Nat
  | (.string bytes, d) => bytes.length + uptoBulk d + 1
  | (_, d) => uptoBulk d + 1
 end
def uptoSmall : (H : Type) → List (DataW H) → Bool := fun _ ds => decide (uptoBulkAll ds ≤ 1048576)
def OpenSpec.upto (s : _root_.Go.ChangeSpec) : _root_.Go.OpenSpec := { _root_.Go.OpenSpec.ofChange s with cond := some uptoSmall }

/-- 'usherlaw28.LimitsChecks', WHERE WHAT IT READS IS OF BULK AT MOST 1048576: true; the input reads as it did. -/
def limitsChecksUptoRow : OpenClaim := { program := "ytddigndamimmpaadoor", sum := "6ceac8254003de55e0c424f92d6f44c7501849d270a39697e43e14e7170e576e", func := "usher/usherlaw28.LimitsChecks", spec := "limitsChecks", inPlace := ["math.Float64frombits", "math.Float64bits"], unfollowed := true, recurses := true, named := ["usher/limits.fields", "usher/limits.nums"], loops := true, apart := false, laid := [("usher/limits.fields", laid_usher_limits_fields), ("usher/limits.nums", laid_usher_limits_nums)], narrowed := true }
def LimitsChecksUptoSaid : Prop := limitsChecksUptoRow.holds Tryd.pinned (OpenSpec.upto limitsChecksSpec)

/-- 'usherlaw28.LimitsFields', WHERE WHAT IT READS IS OF BULK AT MOST 1048576: true; the input reads as it did. -/
def limitsFieldsUptoRow : OpenClaim := { program := "ytddigndamimmpaadoor", sum := "6ceac8254003de55e0c424f92d6f44c7501849d270a39697e43e14e7170e576e", func := "usher/usherlaw28.LimitsFields", spec := "limitsFields", inPlace := ["math.Float64frombits", "math.Float64bits"], unfollowed := true, recurses := true, named := ["usher/limits.fields", "usher/limits.nums"], apart := false, laid := [("usher/limits.fields", laid_usher_limits_fields), ("usher/limits.nums", laid_usher_limits_nums)], narrowed := true }
def LimitsFieldsUptoSaid : Prop := limitsFieldsUptoRow.holds Tryd.pinned (OpenSpec.upto limitsFieldsSpec)

/-- 'usherlaw28.LimitsApart', WHERE WHAT IT READS IS OF BULK AT MOST 1048576: true; the input reads as it did. -/
def limitsApartUptoRow : OpenClaim := { program := "ytddigndamimmpaadoor", sum := "6ceac8254003de55e0c424f92d6f44c7501849d270a39697e43e14e7170e576e", func := "usher/usherlaw28.LimitsApart", spec := "limitsApart", inPlace := ["math.Float64frombits", "math.Float64bits"], unfollowed := true, recurses := true, named := ["usher/limits.fields", "usher/limits.nums"], loops := true, apart := false, laid := [("usher/limits.fields", laid_usher_limits_fields), ("usher/limits.nums", laid_usher_limits_nums)], narrowed := true }
def LimitsApartUptoSaid : Prop := limitsApartUptoRow.holds Tryd.pinned (OpenSpec.upto limitsApartSpec)

end Rows
end Go.Proofs.YtddigndamimmpaaDoor
