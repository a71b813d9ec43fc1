/- Lists of frames of the call's own; the contract of the reference's Scan. -/
import Derived.Test.YtpghnlighbfdoaaDoorP
namespace Go.Proofs.YtpghnlighbfdoaaDoor
open Go.ChangeShapes Go.WideShapes Go.ChangeAt Go.RowKit
def fcells : List (UInt8 × List UInt8) → List Value → List Value
  | f :: fs, x :: xs => .int .i64 (f.1.toNat : Int) :: x :: fcells fs xs
  | _, _ => []
theorem fcells_length : ∀ (fs : List (UInt8 × List UInt8)) (xs : List Value), xs.length = fs.length → (fcells fs xs).length = fs.length * 2
  | [], [], _ => rfl
  | _ :: _, [], h => by simp at h
  | [], _ :: _, h => by simp at h
  | f :: fs, x :: xs, h => by
    have := fcells_length fs xs (by simpa using h)
    simp only [fcells, List.length_cons, this]
    omega
theorem fcells_snoc : ∀ (fs : List (UInt8 × List UInt8)) (xs : List Value) (f : UInt8 × List UInt8) (x : Value), xs.length = fs.length → fcells (fs ++ [f]) (xs ++ [x]) = fcells fs xs ++ [.int .i64 (f.1.toNat : Int), x]
  | [], [], _, _, _ => rfl
  | _ :: _, [], _, _, h => by simp at h
  | [], _ :: _, _, _, h => by simp at h
  | g :: fs, y :: xs, f, x, h => by
    have := fcells_snoc fs xs f x (by simpa using h)
    simp only [List.cons_append, fcells, this]
theorem fcells_at : ∀ (fs : List (UInt8 × List UInt8)) (xs : List Value) (i : Nat) (f : UInt8 × List UInt8) (x : Value), fs[i]? = some f → xs[i]? = some x → (fcells fs xs)[i * 2]? = some (.int .i64 (f.1.toNat : Int)) ∧ (fcells fs xs)[i * 2 + 1]? = some x
  | [], _, i, f, x, h, _ => by simp at h
  | _ :: _, [], i, f, x, _, h => by simp at h
  | g :: fs, y :: xs, 0, f, x, h, h2 => by
    simp at h h2
    subst h h2
    exact ⟨rfl, rfl⟩
  | g :: fs, y :: xs, i + 1, f, x, h, h2 => by
    have := fcells_at fs xs i f x (by simpa using h) (by simpa using h2)
    rw [show (i + 1) * 2 = i * 2 + 2 by omega]
    exact this
/-- v is a list of frames of the call's own, in blocks from B on, with their payloads. -/
def Fs (B : Nat) (w : World) (v : Value) (fs : List (UInt8 × List UInt8)) : Prop :=
  ∃ xs : List Value, xs.length = fs.length ∧ w.ownsRow B 29 2 v fs.length (fcells fs xs) ∧ ∀ (i : Nat) x f, xs[i]? = some x → fs[i]? = some f → Own B w x f.2
theorem Fs.nil (B : Nat) (w : World) : Fs B w (.slice none 0 0) [] := ⟨[], rfl, World.ownsRow_nil _ _ _ _, fun i x f h => by simp at h⟩
theorem row_below {B e k n : Nat} {v : Value} {xs : List Value} {w w' : World} (h : w.ownsRow B e k v n xs) (hb : Below w.heap.size w w') : w'.ownsRow B e k v n xs := by
  obtain ⟨h1, h2 | ⟨g, cap, cur, rfl, hB, hg, r⟩⟩ := h
  · exact ⟨h1, .inl h2⟩
  · have hlt : g < w.heap.size := by
      rcases Nat.lt_or_ge g w.heap.size with h | h
      · exact h
      · rw [Array.getElem?_eq_none h] at hg; cases hg
    exact ⟨h1, .inr ⟨g, cap, cur, rfl, hB, by rw [hb.block _ hlt]; exact hg, r⟩⟩
theorem Fs.below {B : Nat} {w w' : World} {v : Value} {fs : List (UInt8 × List UInt8)} (h : Fs B w v fs) (hb : Below w.heap.size w w') : Fs B w' v fs := by
  obtain ⟨xs, hl, ho, hp⟩ := h
  exact ⟨xs, hl, row_below ho hb, fun i x f h1 h2 => (hp i x f h1 h2).below hb⟩
theorem Own.lower {B B' : Nat} {w : World} {v : Value} {l : List UInt8} (h : Own B w v l) (hB : B' ≤ B) : Own B' w v l := h.other (fun _ _ => rfl) hB
theorem info29s : (Tryd.prog.info? 29).map (fun i => (i.zero, i.size, i.bytes)) = some (some (.agg #[.int .i64 0, .slice none 0 0]), 2, 32) := info29
theorem own_ne {B : Nat} {w : World} {x v : Value} {p : List UInt8} {n : Nat} {xs : List Value} (hx : Own B w x p) (hv : w.ownsRow B 29 2 v n xs) : x.ownBlock = none ∨ x.ownBlock ≠ v.ownBlock := by
  obtain ⟨_, ⟨rfl, _⟩ | ⟨g, cap, cur, rfl, _, hg, _⟩⟩ := hx
  · exact .inl rfl
  · right
    obtain ⟨_, ⟨rfl, _⟩ | ⟨g', cap', cur', rfl, _, hg', _⟩⟩ := hv
    · simp [Value.ownBlock]
    · intro e
      simp only [Value.ownBlock, Option.some.injEq] at e
      subst e
      rw [hg] at hg'
      cases hg'
/-- All blocks of cells of these types are as they were. -/
def KT (S : TypeId → Prop) (w w' : World) : Prop := ∀ (k : Nat) (cur : Array Value) (t : TypeId) (fz : Nat × Nat), w.heap[k]? = some (Obj.cells cur t fz) → S t → w'.heap[k]? = some (Obj.cells cur t fz)
theorem KT.trans {S : TypeId → Prop} {a b c : World} (h : KT S a b) (k : KT S b c) : KT S a c := fun j cur t fz hj ht => k j cur t fz (h j cur t fz hj ht) ht
theorem KT.mono {S T : TypeId → Prop} {a b : World} (h : KT S a b) (hs : ∀ t, T t → S t) : KT T a b := fun j cur t fz hj ht => h j cur t fz hj (hs t ht)
theorem KT.below {S : TypeId → Prop} {a b : World} (h : Below a.heap.size a b) : KT S a b := fun j cur t fz hj _ => by
  have hlt : j < a.heap.size := by
    rcases Nat.lt_or_ge j a.heap.size with h | h
    · exact h
    · rw [Array.getElem?_eq_none h] at hj; cases hj
  rw [h.block j hlt, hj]
theorem KT.set {w : World} {g : Nat} {c : Array Value} {t0 : TypeId} {fz : Nat × Nat} (hg : w.heap[g]? = some (.cells c t0 fz)) (o : Nat) (u : Value) : KT (fun t => t ≠ t0) w (w.setCell ⟨g, o, none⟩ u) := fun j cur t fz hj ht => by
  rw [Below.heap_setCell _ _ _ _ (fun e => ?_), hj]
  subst e
  rw [hj] at hg
  injection hg with hg
  injection hg with _ h2 _
  exact ht h2
theorem row_kt {S : TypeId → Prop} {B e k n : Nat} {v : Value} {xs : List Value} {w w' : World} (h : w.ownsRow B e k v n xs) (hk : KT S w w') (hs : S e) : w'.ownsRow B e k v n xs := by
  obtain ⟨h1, h2 | ⟨g, cap, cur, rfl, hB, hg, r⟩⟩ := h
  · exact ⟨h1, .inl h2⟩
  · exact ⟨h1, .inr ⟨g, cap, cur, rfl, hB, hk g cur e (0, 0) hg hs, r⟩⟩
theorem Fs.kt {S : TypeId → Prop} {B : Nat} {w w' : World} {v : Value} {fs : List (UInt8 × List UInt8)} (h : Fs B w v fs) (hk : KT S w w') (h1 : S 29) (h2 : S 5) : Fs B w' v fs := by
  obtain ⟨xs, hl, ho, hp⟩ := h
  exact ⟨xs, hl, row_kt ho hk h1, fun i x f q1 q2 => row_kt (hp i x f q1 q2) hk h2⟩
/-- append of one frame. -/
theorem fapp_run {B : Nat} {w : World} {v x : Value} {fs : List (UInt8 × List UInt8)} {k : UInt8} {p : List UInt8} (ho : Fs B w v fs) (hx : Own B w x p) (hB : B ≤ w.heap.size) (hn : fs.length ≤ 1000000000) :
    ∃ v' w', (∀ ty, (Builtin.append_ #[33, 33] ty #[v, .slice (some ⟨w.heap.size, 0, none⟩) 1 1]).run Tryd.prog (w.alloc (.cells #[.int .i64 (k.toNat : Int), x] 29)) = .ok v' w') ∧ Fs B w' v' (fs ++ [(k, p)]) ∧ Below B w w' ∧ KT (fun t => t ≠ 29) w w' := by
  obtain ⟨xs, hl, hrow, hp⟩ := ho
  obtain ⟨i0, hi, hz0, hz1, hz2⟩ := info_parts info29
  have hW := below_alloc w (.cells #[.int .i64 (k.toNat : Int), x] 29)
  have hrow' := row_below hrow hW
  have x1 : x.oneCell' = true := by obtain ⟨a, c, rfl, _⟩ := hx.hb; rfl
  have key : ∀ ty, ∃ v' w', (Builtin.append_ #[33, 33] ty #[v, .slice (some ⟨w.heap.size, 0, none⟩) 1 1]).run Tryd.prog (w.alloc (.cells #[.int .i64 (k.toNat : Int), x] 29)) = .ok v' w' ∧ w'.ownsRow B 29 2 v' (fs.length + 1) (fcells fs xs ++ [.int .i64 (k.toNat : Int), x]) ∧ (w.alloc (.cells #[.int .i64 (k.toNat : Int), x] 29)).grownBy w' v.ownBlock ∧ _ := fun ty =>
    run_append_own (P := Tryd.prog) (w := w.alloc (.cells #[.int .i64 (k.toNat : Int), x] 29)) B 33 ty 29 i0 _ 2 32 Tryd.underlying33 hi hz0 hz1 hz2 rfl (by decide) v fs.length (fcells fs xs) hrow' ⟨w.heap.size, 0, none⟩ 1 1 [.int .i64 (k.toNat : Int), x] rfl
      (fun j u hj => by
        rw [add_plain, Nat.zero_add]
        match j, hj with
        | 0, hj => cases hj; simp
        | 1, hj => cases hj; simp
        | j + 2, hj => simp at hj)
      (fun u hu => by
        simp only [List.mem_cons, List.not_mem_nil, or_false] at hu
        rcases hu with rfl | rfl
        · rfl
        · exact x1) (by unfold maxLen; omega) (by omega) (by simp; omega)
  obtain ⟨v', w', hr, hown, hgrow, _⟩ := key 33
  refine ⟨v', w', fun ty => hr, ⟨xs ++ [x], by simp [hl], ?_, ?_⟩, ?_⟩
  · rw [fcells_snoc fs xs (k, p) x hl, List.length_append]
    exact hown
  · intro i y f hy hf
    have keep : ∀ {y : Value} {q : List UInt8}, Own B w y q → Own B w' y q := fun {y q} hq => World.ownsRow.kept (hq.below hW) hgrow (own_ne (hq.below hW) hrow')
    by_cases hi : i < fs.length
    · rw [List.getElem?_append_left hi] at hf
      rw [List.getElem?_append_left (by omega)] at hy
      exact keep (hp i y f hy hf)
    · have hi2 : i = fs.length := by
        have := (List.getElem?_eq_some_iff.1 hf).1
        simp at this
        omega
      subst hi2
      rw [List.getElem?_append_right (by omega)] at hf
      rw [List.getElem?_append_right (by omega), hl] at hy
      simp at hf hy
      subst hf hy
      exact keep hx
  · refine ⟨(hW.mono hB).grown hgrow (Nat.le_trans hB hW.size) (fun k hk => (World.ownsRow.lt hrow k hk).1), fun j cur t fz hj ht => ?_⟩
    have hlt : j < w.heap.size := by
      rcases Nat.lt_or_ge j w.heap.size with h | h
      · exact h
      · rw [Array.getElem?_eq_none h] at hj; cases hj
    rw [hgrow.block j (Nat.lt_of_lt_of_le hlt hW.size) (fun e => ?_), hW.block j hlt, hj]
    obtain ⟨_, ⟨rfl, _⟩ | ⟨g, cap, cur', rfl, _, hg, _⟩⟩ := hrow
    · simp [Value.ownBlock] at e
    · simp only [Value.ownBlock, Option.some.injEq] at e
      subst e
      rw [hj] at hg
      injection hg with hg
      injection hg with _ ht2 _
      exact ht ht2
/-- A frame's kind as a number. -/
def fi (f : UInt8 × List UInt8) : Int × List UInt8 := ((f.1.toNat : Int), f.2)
theorem Fs.fr {B : Nat} {w : World} {v : Value} {fs : List (UInt8 × List UInt8)} (h : Fs B w v fs) : FR w v (fs.map fi) := by
  obtain ⟨xs, hl, hrow, hp⟩ := h
  have hr2 := hrow
  obtain ⟨h1, ⟨rfl, h2⟩ | ⟨g, cap, cur, rfl, hB, hg, r⟩⟩ := hrow
  · have : fs = [] := List.eq_nil_of_length_eq_zero h2
    subst this
    exact ⟨none, 0, rfl, fun i k p hi => by simp at hi⟩
  · refine ⟨some ⟨g, 0, none⟩, cap, by simp, fun i k p hi => ?_⟩
    rw [List.getElem?_map] at hi
    obtain ⟨f, hf, he⟩ := Option.map_eq_some_iff.1 hi
    unfold fi at he
    simp only [Prod.mk.injEq] at he
    obtain ⟨rfl, rfl⟩ := he
    have hlt : i < fs.length := (List.getElem?_eq_some_iff.1 hf).1
    have hx : xs[i]? = some (xs[i]'(by omega)) := List.getElem?_eq_getElem (by omega)
    have hc := fcells_at fs xs i f _ hf hx
    refine ⟨g, 0, _, rfl, ?_, ?_, (hp i _ f hx hf).hb⟩
    · rw [Nat.zero_add, World.ownsRow.cellAt hr2 (i * 2) (by omega)]; exact hc.1
    · rw [Nat.zero_add, World.ownsRow.cellAt hr2 (i * 2 + 1) (by omega)]; exact hc.2
theorem nextL_bad {l : List UInt8} {c : Int} (h : nextL l = .bad c) : (c != 0) = true := by
  unfold nextL at h
  split at h
  · injection h with h; subst h; rfl
  · split at h
    · injection h with h; subst h; rfl
    · split at h
      · injection h with h; subst h; rfl
      · split at h
        · injection h with h; subst h; rfl
        · cases h
theorem wide_ge : ∀ fs : List (UInt8 × List UInt8), fs.length * 9 ≤ wide fs
  | [] => Nat.le_refl _
  | f :: fs => by have := wide_ge fs; simp [wide]; omega
/-- What a call of Scan leaves. -/
def SX (w : World) (fs : List (UInt8 × List UInt8)) (e : Ending) (w' : World) : Prop :=
  ∃ v, e = .returned (.tuple #[v, .int .i64 ((wide fs : Nat) : Int)]) ∧ Fs w.heap.size w' v fs ∧ Below w.heap.size w w'
set_option maxHeartbeats 4000000 in
set_option maxRecDepth 100000 in
theorem rscan_calls (v : Value) (l : List UInt8) (w : World) (hv : Hb w v l) (hl : l.length ≤ 1000000000) : Calls Tryd.prog 15 #[v] w (SX w (scanL l)) := by
  have HV : Hid (∀ W, Below w.heap.size w W → Hb W v l) := fun W hW => hv.below hW
  have HVw : Hid (Hb w v l) := hv
  have HL : Hid (l.length ≤ 1000000000) := hl
  obtain ⟨p, c, rfl, hc, hv'⟩ := hv
  clear hv' hc hl
  go_enter Tryd.func15, Tryd.ntmps15
  go_wp2_with fail
  go_loopw [4, 5] (fun u i wr => ∃ (acc : List (UInt8 × List UInt8)) (j : Nat), i = .int .i64 (j : Int) ∧ j ≤ l.length ∧ Hid (Fs w.heap.size wr u acc) ∧ Hid (scanL l = acc ++ scanL (l.drop j)) ∧ Hid (wide acc = j) ∧ Hid (Below w.heap.size w wr)) (fun _ i _ => l.length - (intOf i).toNat)
  case atStart => exact ⟨[], 0, rfl, Nat.zero_le _, Fs.nil _ _, rfl, rfl, Below.refl _ _⟩
  case round =>
    obtain ⟨acc, j, rfl, hj, HF, HS, HW, HB⟩ := hrel
    obtain ⟨vr, er, qr⟩ := cut_l j HVw.out hj
    have NC : Hid (Calls Tryd.prog 13 #[vr] wr (NX wr (nextL (l.drop j)))) := rnext_calls vr (l.drop j) wr (qr wr (HV.out wr HB.out)) (by have := HL.out; simp; omega)
    clear qr
    have HJ : Hid (j ≤ l.length) := hj
    have hjb : (j : Int) ≤ 1000000000 := by have := HL.out; omega
    clear hj
    go_wp2_with fail
    refine NC.out.mono ?_
    intro e w1 hN
    cases hn : nextL (l.drop j) with
    | bad cd =>
      rw [hn] at hN
      obtain ⟨rfl, hb1⟩ := hN
      have HE : Hid (scanL l = acc) := by show _ = _; rw [HS.out, scanL_bad hn, List.append_nil]
      have hcd : (cd != 0) = true := nextL_bad hn
      have HB1 : Hid (Below w.heap.size w w1) := HB.out.trans (hb1.mono HB.out.size)
      have HF1 : Hid (Fs w.heap.size w1 u4 acc) := HF.out.below hb1
      clear hb1 hn
      go_wp2_with fail
      go_ret2
      rw [HE.out]
      exact ⟨u4, by rw [HW.out]; rfl, HF1.out.below (below_alloc w1 _), HB1.out.alloc HB1.out.size _⟩
    | ok k q =>
      rw [hn] at hN
      obtain ⟨x, rfl, hx, hb1⟩ := hN
      obtain ⟨hk1, hk2⟩ := nextL_ok hn
      have hlen : (l.drop j).length = l.length - j := by simp
      rw [hlen] at hk1
      have HE : Hid (scanL l = (acc ++ [(k, q)]) ++ scanL (l.drop (j + (9 + q.length)))) := by
        show _ = _
        rw [HS.out, scanL_ok hn, List.drop_drop, List.append_assoc]
        rfl
      have HW2 : Hid (wide (acc ++ [(k, q)]) = j + (9 + q.length)) := by show _ = _; rw [wide_append, HW.out]; simp [wide]
      have HJ2 : Hid (j + (9 + q.length) ≤ l.length ∧ 0 < 9 + q.length) := by have := HJ.out; exact ⟨by omega, by omega⟩
      have HB1 : Hid (Below w.heap.size w w1) := HB.out.trans (hb1.mono HB.out.size)
      have HF1 : Hid (Fs w.heap.size w1 u4 acc) := HF.out.below hb1
      have HX1 : Hid (Own w.heap.size w1 x q) := hx.lower HB.out.size
      obtain ⟨xa, xc, rfl, _, _⟩ := hx.hb
      have BA := below_alloc w1 (.cells #[.int .i64 (k.toNat : Int), .slice xa q.length xc] 29)
      have hacc : acc.length ≤ 1000000000 := by
        have a1 := wide_ge acc
        have a2 := HW.out
        have a3 := HJ.out
        have a4 := HL.out
        omega
      obtain ⟨y2, w2, hr2, hF2, hb2, _⟩ := fapp_run (k := k) (HF1.out.below BA) (HX1.out.below BA) (Nat.le_trans HB1.out.size BA.size) hacc
      have HF2 : Hid (Fs w.heap.size w2 y2 (acc ++ [(k, q)])) := hF2
      have HB2 : Hid (Below w.heap.size w w2) := (HB1.out.alloc HB1.out.size _).trans hb2
      have hsz : (w1.alloc (.cells #[.int .i64 (k.toNat : Int), .slice xa q.length xc] 29)).heap.size = w1.heap.size + 1 := by simp
      rw [hsz] at hr2
      have hjw : wrap64 ((j : Int) + ((9 + q.length : Nat) : Int)) = ((j + (9 + q.length) : Nat) : Int) := by
        have := HL.out
        have := HJ2.out.1
        unfold wrap64
        omega
      obtain ⟨m, hm⟩ : ∃ m, m = 9 + q.length := ⟨_, rfl⟩
      rw [← hm] at hjw HE HW2 HJ2 ⊢
      have hmb : (m : Int) ≤ 1048585 := by omega
      clear hb1 hn hx hk1 hk2 hlen BA hF2 hb2 hm hacc hsz
      go_wp2_with (at_builtin; refine Lib.wpList_append_run _ rfl _ _ 33 33 rfl _ _ rfl rfl _ _ (hr2 _) ?_)
      refine ⟨⟨acc ++ [(k, q)], j + m, by rw [Int.natCast_add], HJ2.out.1, HF2, HE, HW2, HB2⟩, ?_⟩
      have := HJ2.out
      simp only [intOf]
      omega
end Go.Proofs.YtpghnlighbfdoaaDoor
