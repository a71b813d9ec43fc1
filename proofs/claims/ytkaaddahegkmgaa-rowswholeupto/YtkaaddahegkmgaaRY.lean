/- What Get and Events tell ahead of a batch and behind it. -/
import Derived.Test.YtkaaddahegkmgaaRX
namespace Go.Proofs.Ytkaaddahegkmgaa
open Go.ChangeShapes Go.WideShapes Go.ChangeAt Go.RowKit
theorem fst_or {α : Type} (key : α → ByteArray) (k : ByteArray) : ∀ xs : List α, (∃ i x, Fst key xs k i x) ∨ ∀ y ∈ xs, key y ≠ k
  | [] => .inr fun y h => (by cases h)
  | x :: xs => by
    by_cases hx : key x = k
    · exact .inl ⟨0, x, rfl, hx, fun i' y' h => absurd h (Nat.not_lt_zero _)⟩
    · rcases fst_or key k xs with ⟨i, y, h1, h2, h3⟩ | h
      · refine .inl ⟨i + 1, y, h1, h2, fun i' y' hlt hy => ?_⟩
        match i', hy with
        | 0, hy => cases hy; exact hx
        | i' + 1, hy => exact h3 i' y' (by omega) hy
      · refine .inr fun y hy => ?_
        rcases List.mem_cons.1 hy with rfl | hy
        · exact hx
        · exact h y hy
theorem pt_memR {α : Type} {key : α → ByteArray} {x y : α} {xs ys : List α} (h : Pt key x xs ys) (hy : y ∈ ys) : y = x ∨ y ∈ xs := by
  rcases h with ⟨i, z, _, rfl⟩ | ⟨_, i, _, rfl⟩
  · exact (List.mem_or_eq_of_mem_set hy).symm
  · rcases List.mem_append.1 hy with hy | hy
    · exact .inr (List.mem_of_mem_take hy)
    · rcases List.mem_cons.1 hy with hy | hy
      · exact .inl hy
      · exact .inr (List.mem_of_mem_drop hy)
/-- What is told of a key: f of the first item of it, or d where there is none. -/
def Gz {α β : Type} (key : α → ByteArray) (f : α → β) (d : β) (xs : List α) (k : ByteArray) (z : β) : Prop := (∃ i x, Fst key xs k i x ∧ z = f x) ∨ ((∀ y ∈ xs, key y ≠ k) ∧ z = d)
theorem gz_total {α β : Type} (key : α → ByteArray) (f : α → β) (d : β) (xs : List α) (k : ByteArray) : ∃ z, Gz key f d xs k z := by
  rcases fst_or key k xs with ⟨i, x, h⟩ | h
  · exact ⟨_, .inl ⟨i, x, h, rfl⟩⟩
  · exact ⟨_, .inr ⟨h, rfl⟩⟩
theorem gz_same {α β : Type} {key : α → ByteArray} {f : α → β} {d : β} {x : α} {xs ys : List α} {k : ByteArray} {z z' : β} (h : Pt key x xs ys) (hk : k ≠ key x) (g : Gz key f d xs k z) (g' : Gz key f d ys k z') : z = z' := by
  rcases g with ⟨i, y, h1, rfl⟩ | ⟨h1, rfl⟩
  · obtain ⟨j, hj⟩ := pt_other h hk h1
    rcases g' with ⟨i', y', h2, rfl⟩ | ⟨h2, _⟩
    · rw [fst_one hj h2]
    · exact absurd hj.2.1 (h2 _ (fst_mem hj))
  · rcases g' with ⟨i', y', h2, rfl⟩ | ⟨_, rfl⟩
    · rcases pt_memR h (fst_mem h2) with rfl | hm
      · exact absurd h2.2.1.symm hk
      · exact absurd h2.2.1 (h1 _ hm)
    · rfl
theorem gz_of {α β : Type} {key : α → ByteArray} {f : α → β} {d : β} {x : α} {xs ys : List α} {z : β} (h : Pt key x xs ys) (g : Gz key f d ys (key x) z) : z = f x := by
  obtain ⟨i, hi⟩ := pt_fst h
  rcases g with ⟨i', y, h1, rfl⟩ | ⟨h1, _⟩
  · rw [fst_one h1 hi]
  · exact absurd rfl (h1 _ (fst_mem hi))
theorem puts_same {β : Type} {f : Bn → β} {d : β} {bs bs' : List Bn} {ts : List Wt} {k : ByteArray} (h : Puts bs ts bs') : (∀ t ∈ ts, t.br ≠ k) → ∀ z z', Gz (fun x : Bn => x.key) f d bs k z → Gz (fun x : Bn => x.key) f d bs' k z' → z = z' := by
  induction h with
  | nil =>
    intro _ z z' g g'
    rcases g with ⟨i, y, h1, rfl⟩ | ⟨h1, rfl⟩
    · rcases g' with ⟨i', y', h2, rfl⟩ | ⟨h2, _⟩
      · rw [fst_one h1 h2]
      · exact absurd h1.2.1 (h2 _ (fst_mem h1))
    · rcases g' with ⟨i', y', h2, rfl⟩ | ⟨_, rfl⟩
      · exact absurd h2.2.1 (h1 _ (fst_mem h2))
      · rfl
  | snoc _ hp _ _ ih =>
    intro hk z z' g g'
    obtain ⟨m, hm⟩ := gz_total (fun x : Bn => x.key) f d _ k
    have h1 := ih (fun t ht => hk t (List.mem_append_left _ ht)) z m g hm
    have h2 := gz_same hp (fun e => hk _ (List.mem_append_right _ (List.mem_singleton.2 rfl)) e.symm) hm g'
    exact h1.trans h2
theorem puts_has {bs bs' : List Bn} {ts : List Wt} (h : Puts bs ts bs') : ∀ t ∈ ts, ∃ i x, Fst (fun x : Bn => x.key) bs' t.br i x ∧ t.ev.length ≤ x.ev.length := by
  induction h with
  | nil => intro t ht; cases ht
  | @snoc bs' bs'' ts t l _ hp h3 h4 ih =>
    intro t' ht
    obtain ⟨i, hi⟩ := pt_fst hp
    rcases List.mem_append.1 ht with ht | ht
    · obtain ⟨j, x, hj, hl⟩ := ih t' ht
      by_cases he : t'.br = t.br
      · rw [he] at hj ⊢
        exact ⟨i, _, hi, Nat.le_trans hl (h4 j x hj)⟩
      · obtain ⟨j', hj'⟩ := pt_other hp he hj
        exact ⟨j', x, hj', hl⟩
    · obtain rfl := List.mem_singleton.1 ht
      exact ⟨i, _, hi, h3⟩
/-- The version and the bytes of a row. -/
def vb (x : Rw) : Int × List UInt8 := (x.ver, x.row)
/-- Get, whatever it tells. -/
theorem get_gz (v : Value) (r : Db) (k : ByteArray) (w : World) (hv : IsR (fun _ => True) w v r) (hs : SmD r) : Calls Try.prog 12 #[v, .string k] w fun e w' =>
    (∃ s n l p c ok, e = .returned (.tuple #[.agg #[.string s, .int .i64 n, .slice p (List.length l) c], .bool ok]) ∧ Gz (fun x : Rw => x.key) vb (0, []) r.rows k (n, l) ∧ ((∃ i x, Fst (fun x : Rw => x.key) r.rows k i x) → ok = true) ∧ HB (fun _ => True) w' (.slice p l.length c) l) ∧ Below w.heap.size w w' :=
  (Get_calls v r k w hv hs).mono fun e w' h => by
    obtain ⟨h, hb⟩ := h
    refine ⟨?_, hb⟩
    rcases h with ⟨i, x, v', hx, rfl, hv'⟩ | ⟨hno, rfl⟩
    · obtain ⟨p, c, rfl, _⟩ := hv'.shape
      exact ⟨k, x.ver, x.row, p, c, true, rfl, .inl ⟨i, x, hx, rfl⟩, fun _ => rfl, hv'.all fun _ _ => trivial⟩
    · exact ⟨⟨#[]⟩, 0, [], none, 0, false, rfl, .inr ⟨hno, rfl⟩, (fun ⟨i, x, hx⟩ => absurd hx.2.1 (hno _ (fst_mem hx))), HB.nil _ _⟩
/-- Events, whatever it tells. -/
theorem ev_gz (v : Value) (r : Db) (k : ByteArray) (w : World) (hv : IsR (fun _ => True) w v r) (hs : SmD r) : Calls Try.prog 14 #[v, .string k] w fun e w' =>
    (∃ l p c ok, e = .returned (.tuple #[.slice p (List.length l) c, .bool ok]) ∧ Gz (fun x : Bn => x.key) Bn.ev [] r.brs k l ∧ ((∃ i x, Fst (fun x : Bn => x.key) r.brs k i x) → ok = true) ∧ Sl evE (fun _ => True) w' (.slice p l.length c) l) ∧ Below w.heap.size w w' :=
  (Events_calls v r k w hv hs).mono fun e w' h => by
    obtain ⟨h, hb⟩ := h
    refine ⟨?_, hb⟩
    rcases h with ⟨i, x, v', hx, rfl, hv'⟩ | ⟨hno, rfl⟩
    · obtain ⟨p, c, rfl, _⟩ := hv'.shape
      exact ⟨x.ev, p, c, true, rfl, .inl ⟨i, x, hx, rfl⟩, fun _ => rfl, hv'.all' fun _ _ => trivial⟩
    · exact ⟨[], none, 0, false, rfl, .inr ⟨hno, rfl⟩, (fun ⟨i, x, hx⟩ => absurd hx.2.1 (hno _ (fst_mem hx))), Sl.nil _ _⟩
set_option maxRecDepth 100000 in
/-- SameTexts of two that are the same. -/
theorem sameTexts_calls (P Q : Nat → Prop) (p1 p2 : Option Addr) (c1 c2 : Nat) (xs : List (List UInt8)) (w : World) (h1 : Sl evE P w (.slice p1 xs.length c1) xs) (h2 : Sl evE Q w (.slice p2 xs.length c2) xs) :
    Calls Try.prog 17 #[.slice p1 xs.length c1, .slice p2 xs.length c2] w fun e w' => e = .returned (.bool true) ∧ Below w.heap.size w w' := by
  have HE : Hid (Calls Try.prog 32 _ w _) := equalev_calls P Q _ _ xs w h1 h2
  clear h1 h2
  go_enter Try.func17, Try.ntmps17
  go_wp2_with fail
  refine HE.out.mono ?_
  rintro e w2 ⟨rfl, hb⟩
  have HB : Hid (Below w.heap.size w w2) := hb
  clear hb HE
  go_wp2_with fail
  go_ret
  exact ⟨rfl, HB.out⟩
end Go.Proofs.Ytkaaddahegkmgaa
