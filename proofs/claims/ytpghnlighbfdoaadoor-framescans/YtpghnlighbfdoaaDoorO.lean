/- The frames with which bytes begin, as a function of the bytes. Plain facts. -/
import Derived.Test.YtpghnlighbfdoaaDoorK
namespace Go.Proofs.YtpghnlighbfdoaaDoor
def scanF : Nat → List UInt8 → List (UInt8 × List UInt8)
  | 0, _ => []
  | n + 1, l => match nextL l with
    | .bad _ => []
    | .ok k p => (k, p) :: scanF n (l.drop (9 + p.length))
/-- The frames, one behind the other. -/
def scanL (l : List UInt8) : List (UInt8 × List UInt8) := scanF l.length l
/-- How many bytes frames have. -/
def wide : List (UInt8 × List UInt8) → Nat
  | [] => 0
  | f :: fs => 9 + f.2.length + wide fs
/-- The bytes of frames. -/
def flat : List (UInt8 × List UInt8) → List UInt8
  | [] => []
  | f :: fs => sealL f.1 f.2 ++ flat fs
theorem wide_append (a b : List (UInt8 × List UInt8)) : wide (a ++ b) = wide a + wide b := by
  induction a with
  | nil => simp [wide]
  | cons f a ih => simp [wide, ih]; omega
theorem flat_append (a b : List (UInt8 × List UInt8)) : flat (a ++ b) = flat a ++ flat b := by
  induction a with
  | nil => simp [flat]
  | cons f a ih => simp [flat, ih]
theorem flat_length (a : List (UInt8 × List UInt8)) : (flat a).length = wide a := by
  induction a with
  | nil => rfl
  | cons f a ih => simp [flat, wide, ih, sealL_length]
theorem nextL_ok {l : List UInt8} {k : UInt8} {p : List UInt8} (h : nextL l = .ok k p) : 9 + p.length ≤ l.length ∧ p.length ≤ 1048576 := by
  unfold nextL at h
  split at h
  · cases h
  · split at h
    · cases h
    · split at h
      · cases h
      · split at h
        · cases h
        · injection h with _ hp
          subst hp
          simp
          omega
theorem scanF_eq : ∀ (n m : Nat) (l : List UInt8), l.length ≤ n → l.length ≤ m → scanF n l = scanF m l := by
  intro n
  induction n with
  | zero =>
    intro m l h1 _
    have hl : l = [] := List.eq_nil_of_length_eq_zero (by omega)
    subst hl
    cases m with
    | zero => rfl
    | succ m => rfl
  | succ n ih =>
    intro m l h1 h2
    cases m with
    | zero =>
      have hl : l = [] := List.eq_nil_of_length_eq_zero (by omega)
      subst hl
      rfl
    | succ m =>
      simp only [scanF]
      cases h : nextL l with
      | bad c => rfl
      | ok k p =>
        have hk := (nextL_ok h).1
        have hd : (l.drop (9 + p.length)).length ≤ l.length - 9 := by simp; omega
        simp only
        rw [ih m _ (by omega) (by omega)]
theorem scanL_bad {l : List UInt8} {c : Int} (h : nextL l = .bad c) : scanL l = [] := by
  unfold scanL
  cases hl : l.length with
  | zero => rfl
  | succ n => simp only [scanF, h]
theorem scanL_ok {l : List UInt8} {k : UInt8} {p : List UInt8} (h : nextL l = .ok k p) : scanL l = (k, p) :: scanL (l.drop (9 + p.length)) := by
  have hk := (nextL_ok h).1
  unfold scanL
  obtain ⟨n, hn⟩ : ∃ n, l.length = n + 1 := ⟨l.length - 1, by omega⟩
  rw [hn]
  simp only [scanF, h]
  rw [scanF_eq n _ _ (by simp; omega) (Nat.le_refl _)]
theorem scanL_wide (l : List UInt8) : wide (scanL l) ≤ l.length := by
  suffices h : ∀ n (l : List UInt8), l.length ≤ n → wide (scanL l) ≤ l.length from h _ l (Nat.le_refl _)
  intro n
  induction n with
  | zero =>
    intro l hl
    have hl : l = [] := List.eq_nil_of_length_eq_zero (by omega)
    subst hl
    exact Nat.le_refl _
  | succ n ih =>
    intro l hl
    cases h : nextL l with
    | bad c => rw [scanL_bad h]; exact Nat.zero_le _
    | ok k p =>
      have hk := (nextL_ok h).1
      have := ih (l.drop (9 + p.length)) (by simp; omega)
      rw [scanL_ok h]
      simp [wide] at this ⊢
      omega
theorem scanL_flat (fs : List (UInt8 × List UInt8)) (t : List UInt8) (h : ∀ f ∈ fs, f.2.length ≤ 1048576) : scanL (flat fs ++ t) = fs ++ scanL t := by
  induction fs with
  | nil => rfl
  | cons f fs ih =>
    have e : flat (f :: fs) ++ t = sealL f.1 f.2 ++ (flat fs ++ t) := by simp [flat]
    rw [e, scanL_ok (nextL_seal f.1 f.2 _ (h f (by simp)))]
    have hd : (sealL f.1 f.2 ++ (flat fs ++ t)).drop (9 + f.2.length) = flat fs ++ t := by
      rw [← sealL_length f.1 f.2]
      exact List.drop_left
    rw [hd, ih (fun g hg => h g (by simp [hg]))]
    rfl
theorem scanL_torn (f : UInt8 × List UInt8) (t : List UInt8) (r : Nat) (hf : f.2.length ≤ 1048576) (hr : r < 9 + f.2.length) : scanL ((sealL f.1 f.2 ++ t).take r) = [] := by
  have e : (sealL f.1 f.2 ++ t).take r = (sealL f.1 f.2).take r := List.take_append_of_le_length (by rw [sealL_length]; omega)
  rw [e]
  have hl : ((sealL f.1 f.2).take r).length = r := by rw [List.length_take, sealL_length]; omega
  apply scanL_bad (c := 4)
  unfold nextL
  by_cases h9 : r < 9
  · rw [if_pos (by omega)]
  · have hn : num4 ((sealL f.1 f.2).take r) = f.2.length := by
      have : (sealL f.1 f.2).take r = be4 f.2.length ++ ((be4 (more 0 (f.1 :: f.2)) ++ f.1 :: f.2).take (r - 4)) := by
        unfold sealL
        rw [List.take_append]
        simp [be4]
        congr 1
        rw [List.take_of_length_le (by simp; omega)]
        rfl
      rw [this]
      exact num4_be4 _ (by omega) _
    rw [if_neg (by omega), hn, if_neg (by omega), if_pos (by omega)]
end Go.Proofs.YtpghnlighbfdoaaDoor
