/- A region that draws its order within a round, walked as anywhere; the contracts of Common and Same. -/
import Derived.Test.YtdlllehoeodekaaK
namespace Go.Proofs.Ytdlllehoeodekaa
open Go.ChangeAt Go.ChangeShapes Go.Deep Go.RowKit Go.WideShapes Go.Shelf
attribute [local go_sem] Oper.semAt_some
theorem operIn_of {P : Program} {o : Oper} {a : Act} {w : World} {K : Act → World → Prop} {Q : Exit → Act → World → Prop} {l n : Nat} (hd : ∀ c, o.op ≠ .defer c) (h : o.wp P a w K Q) : o.wpIn (Fence.wide.inRound l) n P a w K Q := by
  refine ⟨fun _ _ => trivial, ?_⟩
  rw [show (Fence.wide.inRound l).round = some l from rfl, Oper.semAt_some l _ _ hd]
  unfold Oper.wp at h
  generalize (execOp a.eval o).run P w = r at h ⊢
  cases r with
  | ok x w' =>
    cases x with
    | value v => exact h
    | skip => exact h
    | defer d => exact h
    | enter f args => exact ⟨fun e => (by cases e), CallsIn.inRound l (callsIn_wide.2 h)⟩
    | row r args => exact ⟨fun e => (by cases e), fun c cs _ => let ⟨v, w', r, s⟩ := h c cs; ⟨v, w', r, stepsIn_wide.2 s⟩⟩
    | _ => exact h.elim
  | halt x w' => cases x <;> first | exact h | exact h.elim
/-- No operation defers. -/
def noDefer (ops : Array Oper) : Bool := ops.all fun o => match o.op with | .defer _ => false | _ => true
theorem noDefer_spec {ops : Array Oper} (h : noDefer ops = true) {i : Nat} {o : Oper} (ho : ops[i]? = some o) : ∀ c, o.op ≠ .defer c := by
  intro c e
  unfold noDefer at h
  rw [Array.all_eq_true] at h
  obtain ⟨hi, rfl⟩ := Array.getElem?_eq_some_iff.1 ho
  have := h i hi
  rw [e] at this
  cases this
theorem wpAnyIn_of {P : Program} {md : Region.Mode} {ops : Array Oper} {Q : Exit → Act → World → Prop} {l n : Nat} (hL : ¬ LetsOut Q) (hd : noDefer ops = true) : ∀ {fuel : Nat} {listed : Array Bool} {a : Act} {w : World}, wpAny P md ops Q fuel listed a w → wpAnyIn (Fence.wide.inRound l) n P md ops Q fuel listed a w
  | 0, _, _, _, h => h
  | fuel + 1, listed, a, w, h => ⟨h.1, fun i hi => by
      have hh := h.2 i hi
      unfold wpOp at hh
      unfold wpOpIn
      cases ho : ops[i]? with
      | none => simp only [ho] at hh; exact wpAnyIn_of hL hd hh
      | some o =>
        simp only [ho] at hh ⊢
        by_cases hw : Region.wanted o (yielded ops a.tmps) = true
        · rw [if_pos hw] at hh ⊢
          rcases hh with h1 | ⟨_, h2⟩
          · exact Oper.wpIn_mono (fun a w hq => wpAnyIn_of hL hd hq) (operIn_of (noDefer_spec hd ho) h1)
          · exact (hL h2).elim
        · rw [if_neg hw] at hh ⊢
          exact ⟨fun _ _ => trivial, wpAnyIn_of hL hd hh⟩⟩
/-- k events begin both. -/
structure IsC (ys zs : List Ev) (k : Nat) : Prop where
  l1 : k ≤ ys.length
  l2 : k ≤ zs.length
  eq : ∀ i, i < k → ex ys i = ex zs i
  ne : k < ys.length → k < zs.length → ex ys k ≠ ex zs k
theorem IsC.unique {ys zs : List Ev} {k m : Nat} (h : IsC ys zs k) (g : IsC ys zs m) : k = m := by
  rcases Nat.lt_trichotomy k m with e | e | e
  · exact absurd (g.eq k e) (h.ne (by have := g.l1; omega) (by have := g.l2; omega))
  · exact e
  · exact absurd (h.eq m e) (g.ne (by have := h.l1; omega) (by have := h.l2; omega))
def lst : List Nat → Int
  | pre => match pre.getLast? with
    | some x => (x : Int) + 1
    | none => 0
theorem lst_snoc (pre : List Nat) (x : Nat) : lst (pre ++ [x]) = (x : Int) + 1 := by simp [lst]
theorem lst_range (n : Nat) : lst (List.range n) = (n : Int) := by
  cases n with
  | zero => rfl
  | succ n => rw [List.range_succ, lst_snoc]; rfl
/-- All these stand in both, the same. -/
def bothE (ys zs : List Ev) (pre : List Nat) : Prop := ∀ i ∈ pre, i < zs.length ∧ ex ys i = ex zs i
theorem isC_all {ys zs : List Ev} (h : bothE ys zs (List.range ys.length)) : IsC ys zs ys.length := ⟨Nat.le_refl _, by
    cases hn : ys.length with
    | zero => omega
    | succ n => have := (h n (by rw [hn]; simp)).1; omega, fun i hi => (h i (by simpa using hi)).2, fun h1 => absurd h1 (by omega)⟩
theorem isC_stop {ys zs : List Ev} {p : List Nat} {x : Nat} (h : bothE ys zs p) (hx : ¬ (x < zs.length ∧ ex ys x = ex zs x)) (hp : p ++ [x] <+: List.range ys.length) : ∃ k, p = List.range k ∧ IsC ys zs k := by
  have hl : p.length + 1 ≤ ys.length := by have := hp.length_le; simpa using this
  have e := List.prefix_iff_eq_take.1 hp
  rw [List.length_append, List.length_singleton, List.take_range, Nat.min_eq_left hl, List.range_succ] at e
  obtain ⟨e1, e2⟩ := List.append_inj e (by simp)
  have exx : x = p.length := by simpa using e2
  refine ⟨p.length, e1, by omega, ?_, fun i hi => (h i (by rw [e1]; simpa using hi)).2, fun _ h2 he => hx ⟨by omega, by rw [exx]; exact he⟩⟩
  cases hn : p.length with
  | zero => omega
  | succ n => have := (h n (by rw [e1, hn]; simp)).1; omega
end Go.Proofs.Ytdlllehoeodekaa
