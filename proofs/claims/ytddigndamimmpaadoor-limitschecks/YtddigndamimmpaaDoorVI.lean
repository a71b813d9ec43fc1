/- The contracts of Int, List of one value, Put, and of the statements' own awake. -/
import Derived.Test.YtddigndamimmpaaDoorVH
namespace Go.Proofs.YtddigndamimmpaaDoor
open Go.ChangeShapes Go.WideShapes Go.ChangeAt Go.RowKit
/-- The whole number 1, and the list of it. -/
def one : Tv := .mk 1 1 0 ⟨#[]⟩ []
def ones : Tv := .mk 4 0 0 ⟨#[]⟩ [one]
theorem fit_one : Fit 1 1 0 ⟨#[]⟩ 0 0 := ⟨by decide, by decide, by decide, by decide, by decide, by decide, by decide, by decide, by decide⟩
theorem fit_ones (c : Nat) (h1 : 1 ≤ c) (h2 : c ≤ 500) : Fit 4 0 0 ⟨#[]⟩ 1 c := ⟨by decide, by decide, by decide, by decide, by decide, by decide, by decide, h1, by omega⟩
theorem small_one : Small 1 one := ⟨by decide, fun i t h => by simp at h⟩
theorem fits_one : Fits 1 1 0 ⟨#[]⟩ 0 := ⟨by decide, by decide, .inl rfl, .inr rfl, by decide +kernel, .inr (by decide +kernel), by decide, .inr rfl, by decide⟩
theorem fits_ones : Fits 4 0 0 ⟨#[]⟩ 1 := ⟨by decide, by decide, .inr rfl, .inr rfl, by decide +kernel, .inr (by decide +kernel), by decide, .inl rfl, by decide⟩
theorem shape_ones : ShapeT 2 4 ones := ⟨fits_ones, fun _ => by decide, fun i t h => by
  match i, h with
  | 0, h => cases h; exact ⟨fits_one, fun h => absurd h (by decide), fun i t h => by simp at h⟩⟩
theorem bytes_ones : bytesT 2 ones = [4, 1, 1, 128, 0, 0, 0, 0, 0, 0, 1] := by decide +kernel
theorem is_one (w : World) : Is w 1 (.agg #[.int .i64 1, .int .i64 1, .int .u64 0, .string ⟨#[]⟩, .slice none 0 0]) one :=
  ⟨none, 0, rfl, fit_one, fun i t h => by simp at h⟩
end Go.Proofs.YtddigndamimmpaaDoor
