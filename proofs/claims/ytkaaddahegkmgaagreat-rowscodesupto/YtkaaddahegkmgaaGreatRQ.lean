/- The contract of change. -/
import Derived.Test.YtkaaddahegkmgaaGreatMO
import Derived.Test.YtkaaddahegkmgaaGreatBJ
namespace Go.Proofs.YtkaaddahegkmgaaGreat
open Go.ChangeShapes Go.WideShapes Go.ChangeAt Go.RowKit
/-- The version of the first row of a key; 0, where none has it. -/
def VerIs (rows : List Rw) (k : ByteArray) (v : Int) : Prop := (∃ (i : Nat) (x : Rw), Fst (fun x : Rw => x.key) rows k i x ∧ x.ver = v) ∨ ((∀ y ∈ rows, y.key ≠ k) ∧ v = 0)
theorem ver_det {rows : List Rw} {k : ByteArray} {v v' : Int} (h : VerIs rows k v) (g : VerIs rows k v') : v = v' := by
  rcases h with ⟨i, x, hx, rfl⟩ | ⟨hno, rfl⟩ <;> rcases g with ⟨j, y, hy, rfl⟩ | ⟨hno', rfl⟩
  · rw [fst_one hx hy]
  · exact absurd hx.2.1 (hno' x (fst_mem hx))
  · exact absurd hy.2.1 (hno y (fst_mem hy))
  · rfl
theorem drewB0 (w : World) : Below w.heap.size w w.drew := (Below.refl _ w).drew
theorem ver_calls (v : Value) (r : Db) (k : ByteArray) (w : World) (hv : IsR (fun _ => True) w v r) (hs : SmD r) : Calls Tryz.prog 14 #[v, .string k] w fun e w' => (∃ kx vx px nx cx ok, e = .returned (.tuple #[.agg #[.string kx, .int .i64 vx, .slice px nx cx], .bool ok]) ∧ VerIs r.rows k vx) ∧ Below w.heap.size w w' :=
  (Get_calls v r k w hv hs).mono (fun e w' h => by
    obtain ⟨⟨i, x, v', hx, rfl, hv'⟩ | ⟨hno, rfl⟩, hb⟩ := h
    · obtain ⟨p', c', rfl, _⟩ := hv'.shape
      exact ⟨⟨_, _, _, _, _, _, rfl, .inl ⟨i, x, hx, rfl⟩⟩, hb⟩
    · exact ⟨⟨_, _, _, _, _, _, rfl, .inr ⟨hno, rfl⟩⟩, hb⟩)
theorem set_cellR (w : World) {g B o o1 o2 o3 : Nat} {a b c : Value} (h : B ≠ g) : (((w.setCell ⟨g, o1, none⟩ a).setCell ⟨g, o2, none⟩ b).setCell ⟨g, o3, none⟩ c).cell? ⟨B, o, none⟩ = w.cell? ⟨B, o, none⟩ := World.cell?_of_block (set_orowG w g B o1 o2 o3 a b c h)
theorem gr_type {α : Type} {E : El α} {lo B : Nat} {Q : Nat → Prop} {w : World} {u : Value} {xs : List α} (h : Gr E lo Q w u xs) (hB : u.ownBlock = some B) : ∃ cur, w.heap[B]? = some (.cells cur E.ty (0, 0)) := by
  obtain ⟨_, ⟨_, ⟨rfl, h2⟩ | ⟨g, cap, cur, rfl, _, hg, _⟩⟩, _⟩ := h
  · simp [Value.ownBlock] at hB
  · obtain rfl : g = B := by simpa [Value.ownBlock] using hB
    exact ⟨cur, hg⟩
theorem gr_ne {α : Type} {E : El α} {lo g t : Nat} {Q : Nat → Prop} {w : World} {u : Value} {xs : List α} {cs : Array Value} (h : Gr E lo Q w u xs) (hg : w.heap[g]? = some (.cells cs t (0, 0))) (ht : t ≠ E.ty) : u.ownBlock ≠ some g := fun e => by
  obtain ⟨cur, hc⟩ := gr_type h e
  rw [hg] at hc
  injection hc with hc
  injection hc with _ h2 _
  exact ht h2
theorem pt_mem {α : Type} {key : α → ByteArray} {x : α} {xs ys : List α} (h : Pt key x xs ys) : ∀ y ∈ ys, y = x ∨ y ∈ xs := by
  intro y hy
  rcases h with ⟨i, z, _, rfl⟩ | ⟨_, i, _, rfl⟩
  · rcases List.mem_or_eq_of_mem_set hy with h | h
    · exact .inr h
    · exact .inl h
  · rcases List.mem_append.1 hy with h | h
    · exact .inr (List.mem_of_mem_take h)
    · rcases List.mem_cons.1 h with h | h
      · exact .inl h
      · exact .inr (List.mem_of_mem_drop h)
theorem pt_len {α : Type} {key : α → ByteArray} {x : α} {xs ys : List α} (h : Pt key x xs ys) : ys.length ≤ xs.length + 1 := by
  rcases h with ⟨i, z, _, rfl⟩ | ⟨_, i, _, rfl⟩
  · rw [List.length_set]; omega
  · simp; omega
/-- u and b are the lists of the rows r, each in a block of the call's own; nothing of what they have lies in the block p. -/
structure OwnP (lo p : Nat) (w : World) (u b : Value) (r : Db) : Prop where
  rows : Gr rowE lo (fun B => (lo ≤ B ∧ B ≠ p) ∧ b.ownBlock ≠ some B) w u r.rows
  brs : Gr brE lo (fun B => (lo ≤ B ∧ B ≠ p) ∧ u.ownBlock ≠ some B) w b r.brs
  ne : ∀ B, u.ownBlock = some B → b.ownBlock ≠ some B
theorem OwnP.keep {lo p : Nat} {w w' : World} {u b : Value} {r : Db} (h : OwnP lo p w u b r) (hk : ∀ B, lo ≤ B → B < w.heap.size → w'.heap[B]? = w.heap[B]?) : OwnP lo p w' u b r :=
  ⟨h.rows.keep (fun B hB => hk B (h.rows.lt B hB).1 (h.rows.lt B hB).2) (fun B hB hl => ⟨hk B hB.1.1 hl, hB⟩), h.brs.keep (fun B hB => hk B (h.brs.lt B hB).1 (h.brs.lt B hB).2) (fun B hB hl => ⟨hk B hB.1.1 hl, hB⟩), h.ne⟩
theorem OwnP.below {lo p : Nat} {w w' : World} {u b : Value} {r : Db} (h : OwnP lo p w u b r) (hb : Below w.heap.size w w') : OwnP lo p w' u b r := h.keep fun B _ hl => hb.block B hl
theorem OwnP.isR {lo p : Nat} {w : World} {u b : Value} {r : Db} (h : OwnP lo p w u b r) : IsR (fun B => lo ≤ B) w (.agg #[u, b]) r :=
  ⟨u, b, rfl, h.rows.sl (fun _B h => h.elim (fun h => h.1.1) id), h.brs.sl (fun _B h => h.elim (fun h => h.1.1) id)⟩
theorem OwnP.setP {lo p o : Nat} {w : World} {u b v : Value} {r : Db} {cs : Array Value} (h : OwnP lo p w u b r) (hp : w.heap[p]? = some (.cells cs 25 (0, 0))) : OwnP lo p (w.setCell ⟨p, o, none⟩ v) u b r :=
  ⟨h.rows.keep (fun B hB => Below.heap_setCell _ _ _ _ (fun e => by have e2 : B = p := e; subst e2; exact gr_ne h.rows hp (by decide) hB)) (fun B hB _ => ⟨Below.heap_setCell _ _ _ _ hB.1.2, hB⟩),
    h.brs.keep (fun B hB => Below.heap_setCell _ _ _ _ (fun e => by have e2 : B = p := e; subst e2; exact gr_ne h.brs hp (by decide) hB)) (fun B hB _ => ⟨Below.heap_setCell _ _ _ _ hB.1.2, hB⟩), h.ne⟩
theorem OwnP.isD {lo p : Nat} {w : World} {u b : Value} {r : Db} (h : OwnP lo p w u b r) : OwnD lo w u b r :=
  ⟨h.rows.keep (fun _ _ => rfl) (fun _B hB _ => ⟨rfl, hB.1.1, hB.2⟩), h.brs.keep (fun _ _ => rfl) (fun _B hB _ => ⟨rfl, hB.1.1, hB.2⟩), h.ne⟩
theorem OwnD.toP {lo p : Nat} {w : World} {u b : Value} {r : Db} (h : OwnD lo w u b r) (hp : w.heap.size ≤ p) : OwnP lo p w u b r :=
  ⟨h.rows.keep (fun _ _ => rfl) (fun B hB hl => ⟨rfl, ⟨hB.1, by omega⟩, hB.2⟩), h.brs.keep (fun _ _ => rfl) (fun B hB hl => ⟨rfl, ⟨hB.1, by omega⟩, hB.2⟩), h.ne⟩
/-- A branch is put into rows of the call's own. -/
theorem OwnP.putB {lo p : Nat} {w w' : World} {u b b' : Value} {r : Db} {ys : List Bn} (h : OwnP lo p w u b r) (hg : Gr brE lo (fun B => (lo ≤ B ∧ B ≠ p) ∧ u.ownBlock ≠ some B) w' b' ys) (hk : ∀ B, B < w.heap.size → b.ownBlock ≠ some B → w'.heap[B]? = w.heap[B]?) (hb : b'.ownBlock = b.ownBlock ∨ ∃ B, b'.ownBlock = some B ∧ w.heap.size ≤ B) : OwnP lo p w' u b' ⟨r.rows, ys⟩ := by
  have hne : ∀ B, B < w.heap.size → b.ownBlock ≠ some B → b'.ownBlock ≠ some B := fun B hl hB => by
    rcases hb with e | ⟨B', e, hB'⟩
    · rw [e]; exact hB
    · rw [e]; intro e2; injection e2 with e2; omega
  exact ⟨h.rows.keep (fun B hB => hk B (h.rows.lt B hB).2 (h.ne B hB)) (fun B hB hl => ⟨hk B hl hB.2, hB.1, hne B hl hB.2⟩), hg, fun B hB => hne B (h.rows.lt B hB).2 (h.ne B hB)⟩
/-- A row is put into rows of the call's own. -/
theorem OwnP.putR {lo p : Nat} {w w' : World} {u u' b : Value} {r : Db} {ys : List Rw} (h : OwnP lo p w u b r) (hg : Gr rowE lo (fun B => (lo ≤ B ∧ B ≠ p) ∧ b.ownBlock ≠ some B) w' u' ys) (hk : ∀ B, B < w.heap.size → u.ownBlock ≠ some B → w'.heap[B]? = w.heap[B]?) (hb : u'.ownBlock = u.ownBlock ∨ ∃ B, u'.ownBlock = some B ∧ w.heap.size ≤ B) : OwnP lo p w' u' b ⟨ys, r.brs⟩ := by
  have hne : ∀ B, B < w.heap.size → u.ownBlock ≠ some B → u'.ownBlock ≠ some B := fun B hl hB => by
    rcases hb with e | ⟨B', e, hB'⟩
    · rw [e]; exact hB
    · rw [e]; intro e2; injection e2 with e2; omega
  have hn : ∀ B, b.ownBlock = some B → u.ownBlock ≠ some B := fun B hB e => h.ne B e hB
  exact ⟨hg, h.brs.keep (fun B hB => hk B (h.brs.lt B hB).2 (hn B hB)) (fun B hB hl => ⟨hk B hl hB.2, hB.1, hne B hl hB.2⟩), fun B hB e => hne B (h.brs.lt B e).2 (hn B e) hB⟩
/-- One branch behind the other is put. -/
inductive Puts : List Bn → List Wt → List Bn → Prop
  | nil (bs : List Bn) : Puts bs [] bs
  | snoc {bs bs' bs'' : List Bn} {ts : List Wt} {t : Wt} {l : List (List UInt8)} : Puts bs ts bs' → Pt (fun x : Bn => x.key) ⟨t.br, l⟩ bs' bs'' → t.ev.length ≤ l.length → (∀ i x, Fst (fun x : Bn => x.key) bs' t.br i x → x.ev.length ≤ l.length) → Puts bs (ts ++ [t]) bs''
/-- What change answers. -/
def ChP (m lo p : Nat) (r : Db) (b : Bt) (w : World) (e : Ending) (w' : World) : Prop :=
  ((mayB b = false ∧ e = .returned (.int .i64 1)) ∨ (mayB b = true ∧ ¬ VerIs r.rows b.key b.ex ∧ e = .returned (.int .i64 11)) ∨ (mayB b = true ∧ VerIs r.rows b.key b.ex ∧ b.ws ≠ [] ∧ ∃ c : Int, c ≠ 0 ∧ e = .returned (.int .i64 c)) ∨
    (mayB b = true ∧ VerIs r.rows b.key b.ex ∧ e = .returned (.int .i64 0) ∧ ∃ u' b' r', w'.heap[p]? = some (.cells #[u', b'] 25 (0, 0)) ∧ OwnP lo p w' u' b' r' ∧ Pt (fun x : Rw => x.key) ⟨b.key, b.ex + 1, b.row⟩ r.rows r'.rows ∧ Puts r.brs b.ws r'.brs ∧ SmD r')) ∧ Below m w w'
set_option maxHeartbeats 8000000 in
set_option maxRecDepth 100000 in
theorem change_calls (m lo p : Nat) (u bv v : Value) (r : Db) (b : Bt) (w : World) (hp : w.heap[p]? = some (.cells #[u, bv] 25 (0, 0))) (hpl : m ≤ lo ∧ m ≤ p) (hd : OwnP lo p w u bv r) (hlo : lo ≤ w.heap.size) (hb : BtS (fun B => B < m) w v b) (hs : SmD r) (hrow : b.row.length ≤ 70368744177664) (hr : r.rows.length ≤ 450) (hbr : r.brs.length ≤ 450) :
    Calls Tryz.prog 37 #[.pointer (some ⟨p, 0, none⟩), v] w (ChP m lo p r b w) := by
  obtain ⟨pu, cu, rfl, _⟩ := hd.rows.shape
  obtain ⟨pb, cb, rfl, _⟩ := hd.brs.shape
  obtain ⟨vr, vw, rfl, hbr0, hbw⟩ := hb
  obtain ⟨rp, rc, rfl, _⟩ := hbr0.shape
  obtain ⟨wa, wk, rfl, _⟩ := hbw.shape
  have HD : Hid (OwnP lo p w (.slice pu r.rows.length cu) (.slice pb r.brs.length cb) r) := hd
  have HP : Hid (w.heap[p]? = _) := hp
  have HPL : Hid (p < w.heap.size) := lt_of_row hp
  have HLO : Hid ((m ≤ lo ∧ m ≤ p) ∧ lo ≤ w.heap.size) := ⟨hpl, hlo⟩
  have HBT : Hid (BtS (fun B => B < m) w (.agg #[.string b.key, .int .i64 b.ex, .slice rp b.row.length rc, .slice wa b.ws.length wk]) b) := ⟨_, _, rfl, hbr0, hbw⟩
  have HS : Hid (SmD r) := hs
  have HN : Hid (b.row.length ≤ 70368744177664 ∧ r.rows.length ≤ 450 ∧ r.brs.length ≤ 450) := ⟨hrow, hr, hbr⟩
  clear hp hpl hd hlo hbr0 hbw hs hrow hr hbr
  go_enter Tryz.func37, Tryz.ntmps37
  go_wp2_with fail
  have HA : Hid (Below w.heap.size w (w.alloc (.cells #[.string b.key, .int .i64 b.ex, .slice rp b.row.length rc, .slice wa b.ws.length wk] 42))) := bel1 _ _
  have HO : (w.alloc (.cells #[.string b.key, .int .i64 b.ex, .slice rp b.row.length rc, .slice wa b.ws.length wk] 42)).heap[w.heap.size]? = _ := heap_alloc_last w _
  generalize w.alloc (.cells #[.string b.key, .int .i64 b.ex, .slice rp b.row.length rc, .slice wa b.ws.length wk] 42) = w1 at HA HO ⊢
  refine (check_calls _ b w1 (HBT.out.below HA.out).bis).mono ?_
  rintro e w2 ⟨rfl, hb2⟩
  have HB2 : Hid (Below w.heap.size w w2) := bel2 HA.out hb2
  have rg := row_below hb2 HO
  have HGR : Hid (w2.heap[w.heap.size]? = _) := rg
  have HGL : Hid (w.heap.size < w2.heap.size) := lt_of_row rg
  have hpp := row_below HB2.out HP.out
  have e0 := row_cell hpp (j := 0) rfl
  have e1 : w2.cell? ⟨p, 0 + 1, none⟩ = _ := row_cell hpp (j := 1) rfl
  have k0 := row_cell rg (j := 0) rfl
  have k1 := row_cell rg (j := 1) rfl
  have k2 := row_cell rg (j := 2) rfl
  have k3 := row_cell rg (j := 3) rfl
  clear hb2 HO hpp rg
  by_cases hm : mayB b = true
  · have hck : ckE b = 0 := by unfold ckE; rw [if_pos hm]
    rw [hck]
    have GC : Hid (∀ W, Below w2.heap.size w2 W → Calls Tryz.prog 14 _ W _) := fun W hW => ver_calls _ r b.key W (((HD.out.isR.keep (P' := fun _ => True) (fun B hB hl => ⟨rfl, trivial⟩)).below (bel2 HB2.out hW))) HS.out
    go_upto_region 4 with fail
    go_cut [6, 7] (fun a c wx => Hid (∃ q vx, a = .pointer (some ⟨q, 0, none⟩) ∧ wx.cell? ⟨q, 1, none⟩ = some (.int .i64 vx) ∧ VerIs r.rows b.key vx) ∧ Hid (Below w2.heap.size w2 wx))
    case first =>
      refine wp_region_held_drew (S := (fun W => W.cell? ⟨p, 0, none⟩ = some (.slice pu r.rows.length cu) ∧ W.cell? ⟨p, 0 + 1, none⟩ = some (.slice pb r.brs.length cb) ∧ W.cell? ⟨w.heap.size, 0, none⟩ = some (.string b.key))) (by kernel_rfl) ⟨e0, e1, k0⟩ (fun hHeld => ?_)
      change wpAnyH _ _ _ _ _ _ _ _ (World.drew _)
      refine wpAnyH_take (i := 0) (oi := { dst := some 18, op := Go.Op.move (Go.Operand.tmp 0), type := 72, pos := "rows.go:123", after := #[], guard := none }) (v := ?_) rfl (by kernel_rfl) (by kernel_rfl) (by kernel_rfl) (fun _ _ _ h => h) (Or.inl ⟨by rfl, ?_⟩) hHeld ?_
      rotate_left 1
      · (intro w hSw; (try dsimp only at hSw); go_simp <;> with_reducible rfl)
      simp only [Act.put, List.setIfInBounds_toArray, List.set_cons_zero, List.set_cons_succ]
      refine wpAnyH_take (i := 1) (oi := { dst := some 19, op := Go.Op.nilCheck (Go.Operand.tmp 18), type := 0, pos := "rows.go:123", after := #[{ on := 0, ground := Go.Ground.data }], guard := none }) (v := ?_) rfl (by kernel_rfl) (by kernel_rfl) (by kernel_rfl) (fun _ _ _ h => h) (Or.inl ⟨by rfl, ?_⟩) hHeld ?_
      rotate_left 1
      · (intro w hSw; (try dsimp only at hSw); go_simp <;> with_reducible rfl)
      simp only [Act.put, List.setIfInBounds_toArray, List.set_cons_zero, List.set_cons_succ]
      refine wpAnyH_take (i := 2) (oi := { dst := some 20, op := Go.Op.load 25 (Go.Operand.tmp 19), type := 25, pos := "rows.go:123", after := #[{ on := 1, ground := Go.Ground.data }], guard := none }) (v := ?_) rfl (by kernel_rfl) (by kernel_rfl) (by kernel_rfl) (fun _ _ _ h => h) (Or.inl ⟨by rfl, ?_⟩) hHeld ?_
      rotate_left 1
      · (intro w hSw; (try dsimp only at hSw); go_simp <;> with_reducible rfl)
      simp only [Act.put, List.setIfInBounds_toArray, List.set_cons_zero, List.set_cons_succ]
      refine wpAnyH_take (i := 3) (oi := { dst := some 21, op := Go.Op.fieldAddr 42 (Go.Operand.tmp 3) 0, type := 0, pos := "rows.go:123", after := #[], guard := none }) (v := ?_) rfl (by kernel_rfl) (by kernel_rfl) (by kernel_rfl) (fun _ _ _ h => h) (Or.inl ⟨by rfl, ?_⟩) hHeld ?_
      rotate_left 1
      · (intro w hSw; (try dsimp only at hSw); go_simp <;> with_reducible rfl)
      simp only [Act.put, List.setIfInBounds_toArray, List.set_cons_zero, List.set_cons_succ]
      refine wpAnyH_take (i := 4) (oi := { dst := some 22, op := Go.Op.load 9 (Go.Operand.tmp 21), type := 9, pos := "rows.go:123", after := #[{ on := 3, ground := Go.Ground.data }], guard := none }) (v := ?_) rfl (by kernel_rfl) (by kernel_rfl) (by kernel_rfl) (fun _ _ _ h => h) (Or.inl ⟨by rfl, ?_⟩) hHeld ?_
      rotate_left 1
      · (intro w hSw; (try dsimp only at hSw); go_simp <;> with_reducible rfl)
      simp only [Act.put, List.setIfInBounds_toArray, List.set_cons_zero, List.set_cons_succ]
      refine wpAnyH_ready (rs := [5, 9]) (by kernel_rfl) (by simp) ?_
      refine AllReadyH.cons (o := { dst := some 23, op := Go.Op.call { callee := Go.Callee.value (Go.Operand.func 14), args := #[Go.Operand.tmp 20, Go.Operand.tmp 22], argTypes := #[25, 9] }, type := 48, pos := "rows.go:123", after := #[{ on := 2, ground := Go.Ground.data }, { on := 4, ground := Go.Ground.data }], guard := none }) rfl (fun K hK => ?_) (AllReadyH.cons (o := { dst := some 6, op := Go.Op.alloc 47, type := 0, pos := "rows.go:123", after := #[], guard := none }) rfl (fun K hK => ?_) AllReadyH.nil)
      · go_simp
        refine (GC.out w2.drew (drewB0 w2)).mono ?_
        rintro e w3 ⟨⟨kx, vx, px, nx, cx, ok, rfl, hver⟩, hb3⟩
        have b3 : Below w2.heap.size w2 w3 := drewB hb3
        clear hHeld
        refine hK.out _ _ (⟨cell_below e0 b3, cell_below e1 b3, cell_below k0 b3⟩) (fun hHeld => ?_)
        clear hK K
        refine wpAnyH_take (i := 6) (oi := { dst := some 17, op := Go.Op.move (Go.Operand.tmp 23), type := 48, pos := "rows.go:123", after := #[{ on := 5, ground := Go.Ground.data }], guard := none }) (v := ?_) rfl (by kernel_rfl) (by kernel_rfl) (by kernel_rfl) (fun _ _ _ h => h) (Or.inl ⟨by rfl, ?_⟩) hHeld ?_
        rotate_left 1
        · (intro w hSw; (try dsimp only at hSw); go_simp <;> with_reducible rfl)
        simp only [Act.put, List.setIfInBounds_toArray, List.set_cons_zero, List.set_cons_succ]
        refine wpAnyH_take (i := 7) (oi := { dst := some 24, op := Go.Op.extract (Go.Operand.tmp 17) 0, type := 47, pos := "rows.go:123", after := #[{ on := 6, ground := Go.Ground.data }], guard := none }) (v := ?_) rfl (by kernel_rfl) (by kernel_rfl) (by kernel_rfl) (fun _ _ _ h => h) (Or.inl ⟨by rfl, ?_⟩) hHeld ?_
        rotate_left 1
        · (intro w hSw; (try dsimp only at hSw); go_simp <;> with_reducible rfl)
        simp only [Act.put, List.setIfInBounds_toArray, List.set_cons_zero, List.set_cons_succ]
        refine wpAnyH_take (i := 8) (oi := { dst := some 25, op := Go.Op.extract (Go.Operand.tmp 17) 1, type := 4, pos := "rows.go:123", after := #[{ on := 6, ground := Go.Ground.data }, { on := 10, ground := Go.Ground.gcOnly Go.Departure.lateStores }], guard := none }) (v := ?_) rfl (by kernel_rfl) (by kernel_rfl) (by kernel_rfl) (fun _ _ _ h => h) (Or.inl ⟨by rfl, ?_⟩) hHeld ?_
        rotate_left 1
        · (intro w hSw; (try dsimp only at hSw); go_simp <;> with_reducible rfl)
        simp only [Act.put, List.setIfInBounds_toArray, List.set_cons_zero, List.set_cons_succ]
        have b4 : Below w2.heap.size w2 (w3.alloc (.cells #[.string ⟨#[]⟩, .int .i64 0, .slice none 0 0] 47)) := bel2 b3 (bel1 _ _)
        have y0 := cell_new w3 #[.string ⟨#[]⟩, .int .i64 0, .slice none 0 0] 47 0
        have y1 := cell_new w3 #[.string ⟨#[]⟩, .int .i64 0, .slice none 0 0] 47 1
        have y2 := cell_new w3 #[.string ⟨#[]⟩, .int .i64 0, .slice none 0 0] 47 2
        have yf := row_frozen (heap_alloc_last w3 (.cells #[.string ⟨#[]⟩, .int .i64 0, .slice none 0 0] 47))
        refine wpAnyH_ready (rs := [9]) (by kernel_rfl) (by simp) ?_
        refine AllReadyH.cons (o := { dst := some 6, op := Go.Op.alloc 47, type := 0, pos := "rows.go:123", after := #[], guard := none }) rfl (fun K hK => ?_) AllReadyH.nil
        go_simp
        clear hHeld
        refine hK.out _ _ (⟨cell_below e0 b4, cell_below e1 b4, cell_below k0 b4⟩) (fun hHeld => ?_)
        clear hK K
        refine wpAnyH_ready (rs := [10]) (by kernel_rfl) (by simp) ?_
        refine AllReadyH.cons (o := { dst := none, op := Go.Op.store 47 (Go.Operand.tmp 6) (Go.Operand.tmp 24), type := 0, pos := "rows.go:123", after := #[{ on := 9, ground := Go.Ground.data }, { on := 7, ground := Go.Ground.data }, { on := 5, ground := Go.Ground.chain }, { on := 0, ground := Go.Ground.phase }, { on := 1, ground := Go.Ground.phase }, { on := 2, ground := Go.Ground.phase }, { on := 3, ground := Go.Ground.phase }, { on := 4, ground := Go.Ground.phase }, { on := 5, ground := Go.Ground.phase }, { on := 6, ground := Go.Ground.phase }, { on := 7, ground := Go.Ground.phase }, { on := 8, ground := Go.Ground.textOnly Go.Departure.lateStores }, { on := 9, ground := Go.Ground.phase }], guard := none }) rfl (fun K hK => ?_) AllReadyH.nil
        go_simp
        clear hHeld
        refine hK.out _ _ (⟨cell_below e0 (bel2 b3 (bel1 w3 _)), cell_below e1 (bel2 b3 (bel1 w3 _)), cell_below k0 (bel2 b3 (bel1 w3 _))⟩) (fun hHeld => ?_)
        clear hK K
        refine wpAnyH_ready (rs := [11]) (by kernel_rfl) (by simp) ?_
        refine AllReadyH.cons (o := { dst := some 7, op := Go.Op.assign (Go.Operand.tmp 25), type := 4, pos := "rows.go:123", after := #[{ on := 8, ground := Go.Ground.data }, { on := 10, ground := Go.Ground.chain }, { on := 0, ground := Go.Ground.phase }, { on := 1, ground := Go.Ground.phase }, { on := 2, ground := Go.Ground.phase }, { on := 3, ground := Go.Ground.phase }, { on := 4, ground := Go.Ground.phase }, { on := 5, ground := Go.Ground.phase }, { on := 6, ground := Go.Ground.phase }, { on := 7, ground := Go.Ground.phase }, { on := 8, ground := Go.Ground.phase }, { on := 9, ground := Go.Ground.phase }, { on := 10, ground := Go.Ground.phase }], guard := none }) rfl (fun K hK => ?_) AllReadyH.nil
        go_simp
        clear hHeld
        refine hK.out _ _ (⟨cell_below e0 (bel2 b3 (bel1 w3 _)), cell_below e1 (bel2 b3 (bel1 w3 _)), cell_below k0 (bel2 b3 (bel1 w3 _))⟩) (fun hHeld => ?_)
        clear hK K
        refine wpAnyH_done (by kernel_rfl) ?_ _
        go_wp2_with fail
        go_meet
        exact ⟨⟨_, vx, rfl, cell_new w3 _ 47 1, hver⟩, bel2 b3 (bel1 w3 _)⟩
      · go_simp
        have b1 : Below w2.heap.size w2 (w2.drew.alloc (.cells #[.string ⟨#[]⟩, .int .i64 0, .slice none 0 0] 47)) := bel2 (drewB0 w2) (bel1 _ _)
        clear hHeld
        refine hK.out _ _ (⟨cell_below e0 b1, cell_below e1 b1, cell_below k0 b1⟩) (fun hHeld => ?_)
        clear hK K
        refine wpAnyH_ready (rs := [5]) (by kernel_rfl) (by simp) ?_
        refine AllReadyH.cons (o := { dst := some 23, op := Go.Op.call { callee := Go.Callee.value (Go.Operand.func 14), args := #[Go.Operand.tmp 20, Go.Operand.tmp 22], argTypes := #[25, 9] }, type := 48, pos := "rows.go:123", after := #[{ on := 2, ground := Go.Ground.data }, { on := 4, ground := Go.Ground.data }], guard := none }) rfl (fun K hK => ?_) AllReadyH.nil
        go_simp
        refine (GC.out _ b1).mono ?_
        rintro e w3 ⟨⟨kx, vx, px, nx, cx, ok, rfl, hver⟩, hb3⟩
        have rz : w3.heap[w2.heap.size]? = _ := row_below hb3 (heap_alloc_last w2.drew (.cells #[.string ⟨#[]⟩, .int .i64 0, .slice none 0 0] 47))
        have b3 : Below w2.heap.size w2 w3 := bel2 b1 hb3
        have y0 := row_cell rz (j := 0) rfl
        have y1 := row_cell rz (j := 1) rfl
        have y2 := row_cell rz (j := 2) rfl
        have yf := row_frozen rz
        clear hHeld
        refine hK.out _ _ (⟨cell_below e0 b3, cell_below e1 b3, cell_below k0 b3⟩) (fun hHeld => ?_)
        clear hK K
        refine wpAnyH_take (i := 6) (oi := { dst := some 17, op := Go.Op.move (Go.Operand.tmp 23), type := 48, pos := "rows.go:123", after := #[{ on := 5, ground := Go.Ground.data }], guard := none }) (v := ?_) rfl (by kernel_rfl) (by kernel_rfl) (by kernel_rfl) (fun _ _ _ h => h) (Or.inl ⟨by rfl, ?_⟩) hHeld ?_
        rotate_left 1
        · (intro w hSw; (try dsimp only at hSw); go_simp <;> with_reducible rfl)
        simp only [Act.put, List.setIfInBounds_toArray, List.set_cons_zero, List.set_cons_succ]
        refine wpAnyH_take (i := 7) (oi := { dst := some 24, op := Go.Op.extract (Go.Operand.tmp 17) 0, type := 47, pos := "rows.go:123", after := #[{ on := 6, ground := Go.Ground.data }], guard := none }) (v := ?_) rfl (by kernel_rfl) (by kernel_rfl) (by kernel_rfl) (fun _ _ _ h => h) (Or.inl ⟨by rfl, ?_⟩) hHeld ?_
        rotate_left 1
        · (intro w hSw; (try dsimp only at hSw); go_simp <;> with_reducible rfl)
        simp only [Act.put, List.setIfInBounds_toArray, List.set_cons_zero, List.set_cons_succ]
        refine wpAnyH_take (i := 8) (oi := { dst := some 25, op := Go.Op.extract (Go.Operand.tmp 17) 1, type := 4, pos := "rows.go:123", after := #[{ on := 6, ground := Go.Ground.data }, { on := 10, ground := Go.Ground.gcOnly Go.Departure.lateStores }], guard := none }) (v := ?_) rfl (by kernel_rfl) (by kernel_rfl) (by kernel_rfl) (fun _ _ _ h => h) (Or.inl ⟨by rfl, ?_⟩) hHeld ?_
        rotate_left 1
        · (intro w hSw; (try dsimp only at hSw); go_simp <;> with_reducible rfl)
        simp only [Act.put, List.setIfInBounds_toArray, List.set_cons_zero, List.set_cons_succ]
        refine wpAnyH_ready (rs := [10]) (by kernel_rfl) (by simp) ?_
        refine AllReadyH.cons (o := { dst := none, op := Go.Op.store 47 (Go.Operand.tmp 6) (Go.Operand.tmp 24), type := 0, pos := "rows.go:123", after := #[{ on := 9, ground := Go.Ground.data }, { on := 7, ground := Go.Ground.data }, { on := 5, ground := Go.Ground.chain }, { on := 0, ground := Go.Ground.phase }, { on := 1, ground := Go.Ground.phase }, { on := 2, ground := Go.Ground.phase }, { on := 3, ground := Go.Ground.phase }, { on := 4, ground := Go.Ground.phase }, { on := 5, ground := Go.Ground.phase }, { on := 6, ground := Go.Ground.phase }, { on := 7, ground := Go.Ground.phase }, { on := 8, ground := Go.Ground.textOnly Go.Departure.lateStores }, { on := 9, ground := Go.Ground.phase }], guard := none }) rfl (fun K hK => ?_) AllReadyH.nil
        go_simp
        have HPQ : p < w2.heap.size := Nat.lt_of_lt_of_le HPL.out HB2.out.size
        clear hHeld
        refine hK.out _ _ (⟨(set_cellR w3 (Nat.ne_of_lt HPQ)).trans (cell_below e0 b3), (set_cellR w3 (Nat.ne_of_lt HPQ)).trans (cell_below e1 b3), (set_cellR w3 (Nat.ne_of_lt HGL.out)).trans (cell_below k0 b3)⟩) (fun hHeld => ?_)
        clear hK K
        refine wpAnyH_ready (rs := [11]) (by kernel_rfl) (by simp) ?_
        refine AllReadyH.cons (o := { dst := some 7, op := Go.Op.assign (Go.Operand.tmp 25), type := 4, pos := "rows.go:123", after := #[{ on := 8, ground := Go.Ground.data }, { on := 10, ground := Go.Ground.chain }, { on := 0, ground := Go.Ground.phase }, { on := 1, ground := Go.Ground.phase }, { on := 2, ground := Go.Ground.phase }, { on := 3, ground := Go.Ground.phase }, { on := 4, ground := Go.Ground.phase }, { on := 5, ground := Go.Ground.phase }, { on := 6, ground := Go.Ground.phase }, { on := 7, ground := Go.Ground.phase }, { on := 8, ground := Go.Ground.phase }, { on := 9, ground := Go.Ground.phase }, { on := 10, ground := Go.Ground.phase }], guard := none }) rfl (fun K hK => ?_) AllReadyH.nil
        go_simp
        clear hHeld
        refine hK.out _ _ (⟨(set_cellR w3 (Nat.ne_of_lt HPQ)).trans (cell_below e0 b3), (set_cellR w3 (Nat.ne_of_lt HPQ)).trans (cell_below e1 b3), (set_cellR w3 (Nat.ne_of_lt HGL.out)).trans (cell_below k0 b3)⟩) (fun hHeld => ?_)
        clear hK K
        refine wpAnyH_done (by kernel_rfl) ?_ _
        go_wp2_with fail
        go_meet
        refine ⟨⟨_, vx, rfl, ?_, hver⟩, below_set (below_set (below_set b3 (Nat.le_refl _)) (Nat.le_refl _)) (Nat.le_refl _)⟩
        exact row_cell (set3 rz _ _ _) (j := 1) rfl
    case rest =>
      obtain ⟨HQ, HB4⟩ := hcut
      obtain ⟨q, vx, rfl, hq, hver⟩ := HQ.out
      have HVER : Hid (VerIs r.rows b.key vx) := hver
      have k1' := cell_below k1 HB4.out
      have k3' := cell_below k3 HB4.out
      clear HQ hver
      by_cases hve : vx = b.ex
      · subst hve
        have hm2 := (mayB_iff b).1 hm
        have hpw := row_below (bel2 HB2.out HB4.out) HP.out
        have hgw := row_below HB4.out HGR.out
        have HI0 : Hid (∃ pb' cb' bs', wc.heap[p]? = some (.cells #[.slice pu r.rows.length cu, .slice pb' bs'.length cb'] 25 (0, 0)) ∧ OwnP lo p wc (.slice pu r.rows.length cu) (.slice pb' bs'.length cb') ⟨r.rows, bs'⟩ ∧ Puts r.brs (b.ws.take 0) bs' ∧ SmD ⟨r.rows, bs'⟩ ∧ bs'.length ≤ r.brs.length + 0) :=
          ⟨_, _, r.brs, hpw, HD.out.below (bel2 HB2.out HB4.out), Puts.nil _, HS.out, Nat.le_refl _⟩
        have HG0 : Hid (wc.heap[w.heap.size]? = _) := hgw
        have HBW : Hid (Below m w wc) := (bel2 HB2.out HB4.out).mono (Nat.le_trans HLO.out.1.2 (Nat.le_of_lt HPL.out))
        have HZ0 : Hid (w.heap.size ≤ wc.heap.size) := (bel2 HB2.out HB4.out).size
        have HM2 : Hid (MayB b) := hm2
        have HMM : Hid (mayB b = true) := hm
        clear hm2 hpw hgw hm e0 e1 k0 k1 k2 k3 HB4 HGR HGL GC HB2 HA hck
        go_wp2_with fail
        go_loopw [9, 10, 11, 34] (fun _ _ _ i wr => ∃ j : Nat, j ≤ b.ws.length ∧ i = .int .i64 (j : Int) ∧ Hid (Below m w wr) ∧ Hid (w.heap.size ≤ wr.heap.size) ∧ Hid (wr.heap[w.heap.size]? = some (.cells #[.string b.key, .int .i64 b.ex, .slice rp b.row.length rc, .slice wa b.ws.length wk] 42 (0, 0))) ∧ Hid (∃ pb' cb' bs', wr.heap[p]? = some (.cells #[.slice pu r.rows.length cu, .slice pb' bs'.length cb'] 25 (0, 0)) ∧ OwnP lo p wr (.slice pu r.rows.length cu) (.slice pb' bs'.length cb') ⟨r.rows, bs'⟩ ∧ Puts r.brs (b.ws.take j) bs' ∧ SmD ⟨r.rows, bs'⟩ ∧ bs'.length ≤ r.brs.length + j)) (fun _ _ _ i _ => b.ws.length - (intOf i).toNat)
        case atStart => exact ⟨0, Nat.zero_le _, rfl, HBW, HZ0, HG0, HI0⟩
        case round =>
          clear HI0 HG0 HBW HZ0 k1' k3'
          obtain ⟨j, hj, rfl, HB, HZ, HG, HI⟩ := hrel
          by_cases hlt : j < b.ws.length
          · obtain ⟨pb', cb', bs', hp', hd', hpt, hsm, hbl⟩ := HI.out
            obtain ⟨vr2, vw2, hv2, hr2, hw2⟩ := HBT.out
            cases hv2
            obtain ⟨a3, c3, he3, _, _, h3⟩ := hw2
            cases he3
            obtain ⟨B, o, ev, rfl, hBp, t0, t1, t2, t3, t4, hev⟩ := h3.wt j _ (List.getElem?_eq_getElem hlt)
            have HTK : Hid (b.ws.take (j + 1) = b.ws.take j ++ [b.ws[j]]) := by
              show _ = _
              rw [List.take_add_one, List.getElem?_eq_getElem hlt]
              rfl
            have HTM : Hid (MayW b.ws[j]) := HM2.out.ww _ (List.getElem_mem hlt)
            generalize b.ws[j] = t at t0 t1 t2 t3 t4 hev HTK HTM
            obtain ⟨ep, ec, rfl, _⟩ := hev.shape
            have HEV : Hid (Sl evE (fun B => B < m) w (.slice ep t.ev.length ec) t.ev) := hev
            have u0 := (HB.out.cell (p := ⟨B, o + j * 5, none⟩) hBp).trans t0
            have u1 := (HB.out.cell (p := ⟨B, o + j * 5 + 1, none⟩) hBp).trans t1
            have u2 := (HB.out.cell (p := ⟨B, o + j * 5 + 2, none⟩) hBp).trans t2
            have u3 := (HB.out.cell (p := ⟨B, o + j * 5 + 3, none⟩) hBp).trans t3
            have u4 := (HB.out.cell (p := ⟨B, o + j * 5 + 4, none⟩) hBp).trans t4
            have hjl : (j : Int) < (b.ws.length : Int) := by omega
            have HD' : Hid (OwnP lo p wr (.slice pu r.rows.length cu) (.slice pb' bs'.length cb') ⟨r.rows, bs'⟩) := hd'
            have HPT : Hid (Puts r.brs (b.ws.take j) bs') := hpt
            have HSM : Hid (SmD ⟨r.rows, bs'⟩) := hsm
            have HBL : Hid (bs'.length ≤ r.brs.length + j) := hbl
            have HP' : Hid (wr.heap[p]? = _) := hp'
            clear hd' hpt hsm hbl t0 t1 t2 t3 t4 hev h3 hr2 HI
            go_upto_region 10 with fail
            have HA1 : Hid (Below wr.heap.size wr (wr.alloc (.cells #[.string t.br, .string t.fk, .int .i64 t.kp, .int .i64 t.ta, .slice ep t.ev.length ec] 44))) := bel1 _ _
            have HBOX : (wr.alloc (.cells #[.string t.br, .string t.fk, .int .i64 t.kp, .int .i64 t.ta, .slice ep t.ev.length ec] 44)).heap[wr.heap.size]? = some (.cells #[.string t.br, .string t.fk, .int .i64 t.kp, .int .i64 t.ta, .slice ep t.ev.length ec] 44 (0, 0)) := heap_alloc_last wr _
            have b0 := cell_new wr #[.string t.br, .string t.fk, .int .i64 t.kp, .int .i64 t.ta, .slice ep t.ev.length ec] 44 0
            have b1 : (wr.alloc (.cells #[.string t.br, .string t.fk, .int .i64 t.kp, .int .i64 t.ta, .slice ep t.ev.length ec] 44)).cell? ⟨wr.heap.size, 0 + 1, none⟩ = _ := cell_new wr #[.string t.br, .string t.fk, .int .i64 t.kp, .int .i64 t.ta, .slice ep t.ev.length ec] 44 1
            have b2 : (wr.alloc (.cells #[.string t.br, .string t.fk, .int .i64 t.kp, .int .i64 t.ta, .slice ep t.ev.length ec] 44)).cell? ⟨wr.heap.size, 0 + 2, none⟩ = _ := cell_new wr #[.string t.br, .string t.fk, .int .i64 t.kp, .int .i64 t.ta, .slice ep t.ev.length ec] 44 2
            have b3 : (wr.alloc (.cells #[.string t.br, .string t.fk, .int .i64 t.kp, .int .i64 t.ta, .slice ep t.ev.length ec] 44)).cell? ⟨wr.heap.size, 0 + 3, none⟩ = _ := cell_new wr #[.string t.br, .string t.fk, .int .i64 t.kp, .int .i64 t.ta, .slice ep t.ev.length ec] 44 3
            have b4 : (wr.alloc (.cells #[.string t.br, .string t.fk, .int .i64 t.kp, .int .i64 t.ta, .slice ep t.ev.length ec] 44)).cell? ⟨wr.heap.size, 0 + 4, none⟩ = _ := cell_new wr #[.string t.br, .string t.fk, .int .i64 t.kp, .int .i64 t.ta, .slice ep t.ev.length ec] 44 4
            generalize wr.alloc (.cells #[.string t.br, .string t.fk, .int .i64 t.kp, .int .i64 t.ta, .slice ep t.ev.length ec] 44) = w1 at HA1 HBOX b0 b1 b2 b3 b4 ⊢
            have f0 := row_cell (row_below HA1.out HP'.out) (j := 0) rfl
            have f1 : w1.cell? ⟨p, 0 + 1, none⟩ = _ := row_cell (row_below HA1.out HP'.out) (j := 1) rfl
            have WC : Hid (∀ W, Below w1.heap.size w1 W → Calls Tryz.prog 65 _ W (WrP bs' t W)) := fun W hW => written_calls _ ⟨r.rows, bs'⟩ t _ W (((HD'.out.isR.keep (P' := fun _ => True) (fun B hB hl => ⟨rfl, trivial⟩)).below (bel2 HA1.out hW))) HSM.out HTM.out.k0 (((HEV.out.keep (w' := wr) (P' := fun _ => True) (fun B hB hl => ⟨HB.out.block B hB, trivial⟩)).below (bel2 HA1.out hW))) (by have := HTM.out.e1; omega) (fun x hx => by have := (HTM.out.ee x hx).2; omega)
            go_cut [10, 11] (fun x y wx => ((∃ l p5 c5, x = .slice p5 l.length c5 ∧ y = .int .i64 0 ∧ Sl evE (fun B => w1.heap.size ≤ B) wx (.slice p5 l.length c5) l ∧ l.length ≤ 100000 ∧ t.ev.length ≤ l.length ∧ (∀ i x, Fst (fun x : Bn => x.key) bs' t.br i x → x.ev.length ≤ l.length) ∧ ∀ e ∈ l, e.length ≤ 70368744177664) ∨ (∃ c : Int, c ≠ 0 ∧ y = .int .i64 c)) ∧ Below w1.heap.size w1 wx)
            case first =>
              refine wp_region_held_drew (S := (fun W => W.cell? ⟨p, 0, none⟩ = some (.slice pu r.rows.length cu) ∧ W.cell? ⟨p, 0 + 1, none⟩ = some (.slice pb' bs'.length cb') ∧ W.cell? ⟨wr.heap.size, 0, none⟩ = some (.string t.br) ∧ W.cell? ⟨wr.heap.size, 0 + 1, none⟩ = some (.string t.fk) ∧ W.cell? ⟨wr.heap.size, 0 + 2, none⟩ = some (.int .i64 t.kp) ∧ W.cell? ⟨wr.heap.size, 0 + 3, none⟩ = some (.int .i64 t.ta) ∧ W.cell? ⟨wr.heap.size, 0 + 4, none⟩ = some (.slice ep t.ev.length ec))) (by kernel_rfl) ⟨f0, f1, b0, b1, b2, b3, b4⟩ (fun hHeld => ?_)
              change wpAnyH _ _ _ _ _ _ _ _ (World.drew _)
              refine wpAnyH_take (i := 0) (oi := { dst := some 39, op := Go.Op.move (Go.Operand.tmp 0), type := 72, pos := "rows.go:127", after := #[], guard := none }) (v := ?_) rfl (by kernel_rfl) (by kernel_rfl) (by kernel_rfl) (fun _ _ _ h => h) (Or.inl ⟨by rfl, ?_⟩) hHeld ?_
              rotate_left 1
              · (intro w hSw; (try dsimp only at hSw); go_simp <;> with_reducible rfl)
              simp only [Act.put, List.setIfInBounds_toArray, List.set_cons_zero, List.set_cons_succ]
              refine wpAnyH_take (i := 1) (oi := { dst := some 40, op := Go.Op.nilCheck (Go.Operand.tmp 39), type := 0, pos := "rows.go:127", after := #[{ on := 0, ground := Go.Ground.data }], guard := none }) (v := ?_) rfl (by kernel_rfl) (by kernel_rfl) (by kernel_rfl) (fun _ _ _ h => h) (Or.inl ⟨by rfl, ?_⟩) hHeld ?_
              rotate_left 1
              · (intro w hSw; (try dsimp only at hSw); go_simp <;> with_reducible rfl)
              simp only [Act.put, List.setIfInBounds_toArray, List.set_cons_zero, List.set_cons_succ]
              refine wpAnyH_take (i := 2) (oi := { dst := some 41, op := Go.Op.load 25 (Go.Operand.tmp 40), type := 25, pos := "rows.go:127", after := #[{ on := 1, ground := Go.Ground.data }], guard := none }) (v := ?_) rfl (by kernel_rfl) (by kernel_rfl) (by kernel_rfl) (fun _ _ _ h => h) (Or.inl ⟨by rfl, ?_⟩) hHeld ?_
              rotate_left 1
              · (intro w hSw; (try dsimp only at hSw); go_simp <;> with_reducible rfl)
              simp only [Act.put, List.setIfInBounds_toArray, List.set_cons_zero, List.set_cons_succ]
              refine wpAnyH_take (i := 3) (oi := { dst := some 42, op := Go.Op.load 44 (Go.Operand.tmp 9), type := 44, pos := "rows.go:127", after := #[], guard := none }) (v := ?_) rfl (by kernel_rfl) (by kernel_rfl) (by kernel_rfl) (fun _ _ _ h => h) (Or.inl ⟨by rfl, ?_⟩) hHeld ?_
              rotate_left 1
              · (intro w hSw; (try dsimp only at hSw); go_simp <;> with_reducible rfl)
              simp only [Act.put, List.setIfInBounds_toArray, List.set_cons_zero, List.set_cons_succ]
              refine wpAnyH_ready (rs := [4]) (by kernel_rfl) (by simp) ?_
              refine AllReadyH.cons (o := { dst := some 43, op := Go.Op.call { callee := Go.Callee.value (Go.Operand.func 65), args := #[Go.Operand.tmp 41, Go.Operand.tmp 42], argTypes := #[25, 44] }, type := 101, pos := "rows.go:127", after := #[{ on := 2, ground := Go.Ground.data }, { on := 3, ground := Go.Ground.data }], guard := none }) rfl (fun K hK => ?_) AllReadyH.nil
              go_simp
              refine (WC.out w1.drew (drewB0 w1)).mono ?_
              rintro e w5 ⟨⟨l, v5, rfl, hl, hl1, hl2, hl3, hl4⟩ | ⟨c, hc, rfl⟩, hb5⟩
              · obtain ⟨p5, c5, rfl, _⟩ := hl.shape
                have B5 : Below w1.heap.size w1 w5 := drewB hb5
                clear hHeld
                refine hK.out _ _ (⟨cell_below f0 B5, cell_below f1 B5, cell_below b0 B5, cell_below b1 B5, cell_below b2 B5, cell_below b3 B5, cell_below b4 B5⟩) (fun hHeld => ?_)
                clear hK K
                refine wpAnyH_take (i := 5) (oi := { dst := some 38, op := Go.Op.move (Go.Operand.tmp 43), type := 101, pos := "rows.go:127", after := #[{ on := 4, ground := Go.Ground.data }], guard := none }) (v := ?_) rfl (by kernel_rfl) (by kernel_rfl) (by kernel_rfl) (fun _ _ _ h => h) (Or.inl ⟨by rfl, ?_⟩) hHeld ?_
                rotate_left 1
                · (intro w hSw; (try dsimp only at hSw); go_simp <;> with_reducible rfl)
                simp only [Act.put, List.setIfInBounds_toArray, List.set_cons_zero, List.set_cons_succ]
                refine wpAnyH_take (i := 6) (oi := { dst := some 44, op := Go.Op.extract (Go.Operand.tmp 38) 0, type := 37, pos := "rows.go:127", after := #[{ on := 5, ground := Go.Ground.data }], guard := none }) (v := ?_) rfl (by kernel_rfl) (by kernel_rfl) (by kernel_rfl) (fun _ _ _ h => h) (Or.inl ⟨by rfl, ?_⟩) hHeld ?_
                rotate_left 1
                · (intro w hSw; (try dsimp only at hSw); go_simp <;> with_reducible rfl)
                simp only [Act.put, List.setIfInBounds_toArray, List.set_cons_zero, List.set_cons_succ]
                refine wpAnyH_take (i := 7) (oi := { dst := some 45, op := Go.Op.extract (Go.Operand.tmp 38) 1, type := 29, pos := "rows.go:127", after := #[{ on := 5, ground := Go.Ground.data }, { on := 8, ground := Go.Ground.gcOnly Go.Departure.lateStores }], guard := none }) (v := ?_) rfl (by kernel_rfl) (by kernel_rfl) (by kernel_rfl) (fun _ _ _ h => h) (Or.inl ⟨by rfl, ?_⟩) hHeld ?_
                rotate_left 1
                · (intro w hSw; (try dsimp only at hSw); go_simp <;> with_reducible rfl)
                simp only [Act.put, List.setIfInBounds_toArray, List.set_cons_zero, List.set_cons_succ]
                refine wpAnyH_ready (rs := [8]) (by kernel_rfl) (by simp) ?_
                refine AllReadyH.cons (o := { dst := some 10, op := Go.Op.assign (Go.Operand.tmp 44), type := 37, pos := "rows.go:127", after := #[{ on := 6, ground := Go.Ground.data }, { on := 4, ground := Go.Ground.chain }, { on := 0, ground := Go.Ground.phase }, { on := 1, ground := Go.Ground.phase }, { on := 2, ground := Go.Ground.phase }, { on := 3, ground := Go.Ground.phase }, { on := 4, ground := Go.Ground.phase }, { on := 5, ground := Go.Ground.phase }, { on := 6, ground := Go.Ground.phase }, { on := 7, ground := Go.Ground.textOnly Go.Departure.lateStores }], guard := none }) rfl (fun K hK => ?_) AllReadyH.nil
                go_simp
                clear hHeld
                refine hK.out _ _ (⟨cell_below f0 B5, cell_below f1 B5, cell_below b0 B5, cell_below b1 B5, cell_below b2 B5, cell_below b3 B5, cell_below b4 B5⟩) (fun hHeld => ?_)
                clear hK K
                refine wpAnyH_ready (rs := [9]) (by kernel_rfl) (by simp) ?_
                refine AllReadyH.cons (o := { dst := some 11, op := Go.Op.assign (Go.Operand.tmp 45), type := 29, pos := "rows.go:127", after := #[{ on := 7, ground := Go.Ground.data }, { on := 8, ground := Go.Ground.chain }, { on := 0, ground := Go.Ground.phase }, { on := 1, ground := Go.Ground.phase }, { on := 2, ground := Go.Ground.phase }, { on := 3, ground := Go.Ground.phase }, { on := 4, ground := Go.Ground.phase }, { on := 5, ground := Go.Ground.phase }, { on := 6, ground := Go.Ground.phase }, { on := 7, ground := Go.Ground.phase }, { on := 8, ground := Go.Ground.phase }], guard := none }) rfl (fun K hK => ?_) AllReadyH.nil
                go_simp
                clear hHeld
                refine hK.out _ _ (⟨cell_below f0 B5, cell_below f1 B5, cell_below b0 B5, cell_below b1 B5, cell_below b2 B5, cell_below b3 B5, cell_below b4 B5⟩) (fun hHeld => ?_)
                clear hK K
                refine wpAnyH_done (by kernel_rfl) ?_ _
                go_wp2_with fail
                go_meet
                exact ⟨.inl ⟨l, _, _, rfl, rfl, hl.all' (fun B hB => hB), hl1, hl2, hl3, hl4⟩, B5⟩
              · have B5 : Below w1.heap.size w1 w5 := drewB hb5
                clear hHeld
                refine hK.out _ _ (⟨cell_below f0 B5, cell_below f1 B5, cell_below b0 B5, cell_below b1 B5, cell_below b2 B5, cell_below b3 B5, cell_below b4 B5⟩) (fun hHeld => ?_)
                clear hK K
                refine wpAnyH_take (i := 5) (oi := { dst := some 38, op := Go.Op.move (Go.Operand.tmp 43), type := 101, pos := "rows.go:127", after := #[{ on := 4, ground := Go.Ground.data }], guard := none }) (v := ?_) rfl (by kernel_rfl) (by kernel_rfl) (by kernel_rfl) (fun _ _ _ h => h) (Or.inl ⟨by rfl, ?_⟩) hHeld ?_
                rotate_left 1
                · (intro w hSw; (try dsimp only at hSw); go_simp <;> with_reducible rfl)
                simp only [Act.put, List.setIfInBounds_toArray, List.set_cons_zero, List.set_cons_succ]
                refine wpAnyH_take (i := 6) (oi := { dst := some 44, op := Go.Op.extract (Go.Operand.tmp 38) 0, type := 37, pos := "rows.go:127", after := #[{ on := 5, ground := Go.Ground.data }], guard := none }) (v := ?_) rfl (by kernel_rfl) (by kernel_rfl) (by kernel_rfl) (fun _ _ _ h => h) (Or.inl ⟨by rfl, ?_⟩) hHeld ?_
                rotate_left 1
                · (intro w hSw; (try dsimp only at hSw); go_simp <;> with_reducible rfl)
                simp only [Act.put, List.setIfInBounds_toArray, List.set_cons_zero, List.set_cons_succ]
                refine wpAnyH_take (i := 7) (oi := { dst := some 45, op := Go.Op.extract (Go.Operand.tmp 38) 1, type := 29, pos := "rows.go:127", after := #[{ on := 5, ground := Go.Ground.data }, { on := 8, ground := Go.Ground.gcOnly Go.Departure.lateStores }], guard := none }) (v := ?_) rfl (by kernel_rfl) (by kernel_rfl) (by kernel_rfl) (fun _ _ _ h => h) (Or.inl ⟨by rfl, ?_⟩) hHeld ?_
                rotate_left 1
                · (intro w hSw; (try dsimp only at hSw); go_simp <;> with_reducible rfl)
                simp only [Act.put, List.setIfInBounds_toArray, List.set_cons_zero, List.set_cons_succ]
                refine wpAnyH_ready (rs := [8]) (by kernel_rfl) (by simp) ?_
                refine AllReadyH.cons (o := { dst := some 10, op := Go.Op.assign (Go.Operand.tmp 44), type := 37, pos := "rows.go:127", after := #[{ on := 6, ground := Go.Ground.data }, { on := 4, ground := Go.Ground.chain }, { on := 0, ground := Go.Ground.phase }, { on := 1, ground := Go.Ground.phase }, { on := 2, ground := Go.Ground.phase }, { on := 3, ground := Go.Ground.phase }, { on := 4, ground := Go.Ground.phase }, { on := 5, ground := Go.Ground.phase }, { on := 6, ground := Go.Ground.phase }, { on := 7, ground := Go.Ground.textOnly Go.Departure.lateStores }], guard := none }) rfl (fun K hK => ?_) AllReadyH.nil
                go_simp
                clear hHeld
                refine hK.out _ _ (⟨cell_below f0 B5, cell_below f1 B5, cell_below b0 B5, cell_below b1 B5, cell_below b2 B5, cell_below b3 B5, cell_below b4 B5⟩) (fun hHeld => ?_)
                clear hK K
                refine wpAnyH_ready (rs := [9]) (by kernel_rfl) (by simp) ?_
                refine AllReadyH.cons (o := { dst := some 11, op := Go.Op.assign (Go.Operand.tmp 45), type := 29, pos := "rows.go:127", after := #[{ on := 7, ground := Go.Ground.data }, { on := 8, ground := Go.Ground.chain }, { on := 0, ground := Go.Ground.phase }, { on := 1, ground := Go.Ground.phase }, { on := 2, ground := Go.Ground.phase }, { on := 3, ground := Go.Ground.phase }, { on := 4, ground := Go.Ground.phase }, { on := 5, ground := Go.Ground.phase }, { on := 6, ground := Go.Ground.phase }, { on := 7, ground := Go.Ground.phase }, { on := 8, ground := Go.Ground.phase }], guard := none }) rfl (fun K hK => ?_) AllReadyH.nil
                go_simp
                clear hHeld
                refine hK.out _ _ (⟨cell_below f0 B5, cell_below f1 B5, cell_below b0 B5, cell_below b1 B5, cell_below b2 B5, cell_below b3 B5, cell_below b4 B5⟩) (fun hHeld => ?_)
                clear hK K
                refine wpAnyH_done (by kernel_rfl) ?_ _
                go_wp2_with fail
                go_meet
                exact ⟨.inr ⟨c, hc, rfl⟩, B5⟩
            case rest =>
              obtain ⟨⟨l, p5, c5, rfl, rfl, hl, hl1, hl2, hl3, hl4⟩ | ⟨c, hc, rfl⟩, hBx⟩ := hcut
              · have hDx := HD'.out.below (bel2 HA1.out hBx)
                have px := row_below (bel2 HA1.out hBx) HP'.out
                have gx := row_below (bel2 HA1.out hBx) HG.out
                have qx := row_below hBx HBOX
                have bx0 := row_cell qx (j := 0) rfl
                have f1x : wc.cell? ⟨p, 0 + 1, none⟩ = _ := row_cell px (j := 1) rfl
                have hlb := hDx.brs.lt
                have hlu := hDx.rows.lt
                have hw1 : wr.heap.size ≤ w1.heap.size := HA1.out.size
                have hwx : w1.heap.size ≤ wc.heap.size := hBx.size
                have hlow : lo ≤ wr.heap.size := Nat.le_trans HLO.out.2 HZ.out
                have lb0 := HD'.out.brs.lt
                have lu0 := HD'.out.rows.lt
                have PC : Hid (Calls Tryz.prog 66 #[.slice pb' bs'.length cb', .agg #[.string t.br, .slice p5 l.length c5]] wc.drew _) := putbr_calls lo (fun B => (lo ≤ B ∧ B ≠ p) ∧ (Value.slice pu r.rows.length cu).ownBlock ≠ some B) _ _ bs' ⟨t.br, l⟩ wc.drew (hDx.brs.below (drewB0 wc)) ((hl.keep (P' := fun B => ((lo ≤ B ∧ B ≠ p) ∧ (Value.slice pu r.rows.length cu).ownBlock ≠ some B) ∧ (Value.slice pb' bs'.length cb').ownBlock ≠ some B) (fun B hB _ => ⟨rfl, ⟨⟨Nat.le_trans hlow (Nat.le_trans hw1 hB), fun e => by have := HPL.out; have := HZ.out; have hB' : w1.heap.size ≤ B := hB; omega⟩, fun e => by have := lu0 B e; have hB' : w1.heap.size ≤ B := hB; omega⟩, fun e => by have := lb0 B e; have hB' : w1.heap.size ≤ B := hB; omega⟩)).below (drewB0 wc)) (by have := HBL.out; have := HN.out; have := HM2.out.n1; omega) (Nat.le_trans hlow (Nat.le_trans hw1 hwx))
                have HX : Hid (wc.heap[p]? = _ ∧ wc.heap[w.heap.size]? = _ ∧ wc.heap[wr.heap.size]? = _ ∧ OwnP lo p wc _ _ ⟨r.rows, bs'⟩ ∧ Below wr.heap.size wr wc) := ⟨px, gx, qx, hDx, bel2 HA1.out hBx⟩
                have HLX : Hid (l.length ≤ 100000 ∧ t.ev.length ≤ l.length ∧ (∀ i x, Fst (fun x : Bn => x.key) bs' t.br i x → x.ev.length ≤ l.length) ∧ ∀ e ∈ l, e.length ≤ 70368744177664) := ⟨hl1, hl2, hl3, hl4⟩
                clear hDx px gx qx hlb hlu hw1 hwx lb0 lu0 hl hl1 hl2 hl3 hl4 hBx b0 b1 b2 b3 b4 f0 f1 HBOX HA1 WC
                go_upto_region 13 with fail
                refine wp_region_held_drew (S := (fun W => W.cell? ⟨wr.heap.size, 0, none⟩ = some (.string t.br))) (by kernel_rfl) bx0 (fun hHeld => ?_)
                change wpAnyH _ _ _ _ _ _ _ _ (World.drew _)
                refine wpAnyH_take (i := 0) (oi := { dst := some 49, op := Go.Op.move (Go.Operand.tmp 0), type := 72, pos := "rows.go:131", after := #[], guard := none }) (v := ?_) rfl (by kernel_rfl) (by kernel_rfl) (by kernel_rfl) (fun _ _ _ h => h) (Or.inl ⟨by rfl, ?_⟩) hHeld ?_
                rotate_left 1
                · (intro w hSw; (try dsimp only at hSw); go_simp <;> with_reducible rfl)
                simp only [Act.put, List.setIfInBounds_toArray, List.set_cons_zero, List.set_cons_succ]
                refine wpAnyH_take (i := 1) (oi := { dst := some 50, op := Go.Op.move (Go.Operand.tmp 0), type := 72, pos := "rows.go:131", after := #[], guard := none }) (v := ?_) rfl (by kernel_rfl) (by kernel_rfl) (by kernel_rfl) (fun _ _ _ h => h) (Or.inl ⟨by rfl, ?_⟩) hHeld ?_
                rotate_left 1
                · (intro w hSw; (try dsimp only at hSw); go_simp <;> with_reducible rfl)
                simp only [Act.put, List.setIfInBounds_toArray, List.set_cons_zero, List.set_cons_succ]
                refine wpAnyH_take (i := 2) (oi := { dst := some 51, op := Go.Op.nilCheck (Go.Operand.tmp 50), type := 0, pos := "rows.go:131", after := #[{ on := 1, ground := Go.Ground.data }], guard := none }) (v := ?_) rfl (by kernel_rfl) (by kernel_rfl) (by kernel_rfl) (fun _ _ _ h => h) (Or.inl ⟨by rfl, ?_⟩) hHeld ?_
                rotate_left 1
                · (intro w hSw; (try dsimp only at hSw); go_simp <;> with_reducible rfl)
                simp only [Act.put, List.setIfInBounds_toArray, List.set_cons_zero, List.set_cons_succ]
                refine wpAnyH_take (i := 3) (oi := { dst := some 52, op := Go.Op.fieldAddr 25 (Go.Operand.tmp 51) 1, type := 0, pos := "rows.go:131", after := #[{ on := 2, ground := Go.Ground.data }], guard := none }) (v := ?_) rfl (by kernel_rfl) (by kernel_rfl) (by kernel_rfl) (fun _ _ _ h => h) (Or.inl ⟨by rfl, ?_⟩) hHeld ?_
                rotate_left 1
                · (intro w hSw; (try dsimp only at hSw); go_simp <;> with_reducible rfl)
                simp only [Act.put, List.setIfInBounds_toArray, List.set_cons_zero, List.set_cons_succ]
                refine wpAnyH_take (i := 5) (oi := { dst := some 54, op := Go.Op.fieldAddr 44 (Go.Operand.tmp 9) 0, type := 0, pos := "rows.go:131", after := #[], guard := none }) (v := ?_) rfl (by kernel_rfl) (by kernel_rfl) (by kernel_rfl) (fun _ _ _ h => h) (Or.inl ⟨by rfl, ?_⟩) hHeld ?_
                rotate_left 1
                · (intro w hSw; (try dsimp only at hSw); go_simp <;> with_reducible rfl)
                simp only [Act.put, List.setIfInBounds_toArray, List.set_cons_zero, List.set_cons_succ]
                refine wpAnyH_take (i := 6) (oi := { dst := some 55, op := Go.Op.load 9 (Go.Operand.tmp 54), type := 9, pos := "rows.go:131", after := #[{ on := 5, ground := Go.Ground.data }], guard := none }) (v := ?_) rfl (by kernel_rfl) (by kernel_rfl) (by kernel_rfl) (fun _ _ _ h => h) (Or.inl ⟨by rfl, ?_⟩) hHeld ?_
                rotate_left 1
                · (intro w hSw; (try dsimp only at hSw); go_simp <;> with_reducible rfl)
                simp only [Act.put, List.setIfInBounds_toArray, List.set_cons_zero, List.set_cons_succ]
                refine wpAnyH_take (i := 7) (oi := { dst := some 56, op := Go.Op.move (Go.Operand.tmp 10), type := 37, pos := "rows.go:131", after := #[], guard := none }) (v := ?_) rfl (by kernel_rfl) (by kernel_rfl) (by kernel_rfl) (fun _ _ _ h => h) (Or.inl ⟨by rfl, ?_⟩) hHeld ?_
                rotate_left 1
                · (intro w hSw; (try dsimp only at hSw); go_simp <;> with_reducible rfl)
                simp only [Act.put, List.setIfInBounds_toArray, List.set_cons_zero, List.set_cons_succ]
                refine wpAnyH_take (i := 8) (oi := { dst := some 57, op := Go.Op.build 39 #[(0, Go.Operand.tmp 55), (1, Go.Operand.tmp 56)], type := 39, pos := "rows.go:131", after := #[{ on := 6, ground := Go.Ground.data }, { on := 7, ground := Go.Ground.data }], guard := none }) (v := ?_) rfl (by kernel_rfl) (by kernel_rfl) (by kernel_rfl) (fun _ _ _ h => h) (Or.inl ⟨by rfl, ?_⟩) hHeld ?_
                rotate_left 1
                · (intro w hSw; (try dsimp only at hSw); go_simp <;> with_reducible rfl)
                simp only [Act.put, List.setIfInBounds_toArray, List.set_cons_zero, List.set_cons_succ]
                refine wpAnyH_ready (rs := [4]) (by kernel_rfl) (by simp) ?_
                refine AllReadyH.cons (o := { dst := some 53, op := Go.Op.load 23 (Go.Operand.tmp 52), type := 23, pos := "rows.go:131", after := #[{ on := 3, ground := Go.Ground.data }], guard := none }) rfl (fun K hK => ?_) AllReadyH.nil
                go_simp
                clear hHeld
                refine hK.out _ _ (bx0) (fun hHeld => ?_)
                clear hK K
                refine wpAnyH_ready (rs := [9]) (by kernel_rfl) (by simp) ?_
                refine AllReadyH.cons (o := { dst := some 58, op := Go.Op.call { callee := Go.Callee.value (Go.Operand.func 66), args := #[Go.Operand.tmp 53, Go.Operand.tmp 57], argTypes := #[23, 39] }, type := 23, pos := "rows.go:131", after := #[{ on := 4, ground := Go.Ground.data }, { on := 8, ground := Go.Ground.data }], guard := none }) rfl (fun K hK => ?_) AllReadyH.nil
                go_simp
                refine PC.out.mono ?_
                rintro e w7 ⟨u7, ys, rfl, g7, pt7, hb7, hk7, ho7⟩
                obtain ⟨p7, c7, rfl, _⟩ := g7.shape
                obtain ⟨px, gx, qx, hDx, hwx⟩ := HX.out
                have hk7 : ∀ B, B < wc.heap.size → (Value.slice pb' bs'.length cb').ownBlock ≠ some B → w7.heap[B]? = wc.heap[B]? := hk7
                have p7r := (hk7 p (lt_of_row px) (gr_ne hDx.brs px (by decide))).trans px
                have g7r := (hk7 _ (lt_of_row gx) (gr_ne hDx.brs gx (by decide))).trans gx
                have q7r := (hk7 _ (lt_of_row qx) (gr_ne hDx.brs qx (by decide))).trans qx
                have hD7 := hDx.putB g7 hk7 ho7
                have z0 := row_cell p7r (j := 0) rfl
                have z1 : w7.cell? ⟨p, 0 + 1, none⟩ = _ := row_cell p7r (j := 1) rfl
                have z1b := row_cell p7r (j := 1) rfl
                have zf := row_frozen p7r
                have bx7 := row_cell q7r (j := 0) rfl
                clear hHeld
                refine hK.out _ _ (bx7) (fun hHeld => ?_)
                clear hK K
                refine wpAnyH_take (i := 10) (oi := { dst := some 59, op := Go.Op.nilCheck (Go.Operand.tmp 49), type := 0, pos := "rows.go:131", after := #[{ on := 0, ground := Go.Ground.data }, { on := 0, ground := Go.Ground.phase }, { on := 1, ground := Go.Ground.phase }, { on := 2, ground := Go.Ground.phase }, { on := 3, ground := Go.Ground.phase }, { on := 4, ground := Go.Ground.phase }, { on := 5, ground := Go.Ground.phase }, { on := 6, ground := Go.Ground.phase }, { on := 7, ground := Go.Ground.phase }, { on := 8, ground := Go.Ground.phase }, { on := 9, ground := Go.Ground.phase }], guard := none }) (v := ?_) rfl (by kernel_rfl) (by kernel_rfl) (by kernel_rfl) (fun _ _ _ h => h) (Or.inl ⟨by rfl, ?_⟩) hHeld ?_
                rotate_left 1
                · (intro w hSw; (try dsimp only at hSw); go_simp <;> with_reducible rfl)
                simp only [Act.put, List.setIfInBounds_toArray, List.set_cons_zero, List.set_cons_succ]
                refine wpAnyH_take (i := 11) (oi := { dst := some 60, op := Go.Op.fieldAddr 25 (Go.Operand.tmp 59) 1, type := 0, pos := "rows.go:131", after := #[{ on := 10, ground := Go.Ground.data }, { on := 0, ground := Go.Ground.phase }, { on := 1, ground := Go.Ground.phase }, { on := 2, ground := Go.Ground.phase }, { on := 3, ground := Go.Ground.phase }, { on := 4, ground := Go.Ground.phase }, { on := 5, ground := Go.Ground.phase }, { on := 6, ground := Go.Ground.phase }, { on := 7, ground := Go.Ground.phase }, { on := 8, ground := Go.Ground.phase }, { on := 9, ground := Go.Ground.phase }], guard := none }) (v := ?_) rfl (by kernel_rfl) (by kernel_rfl) (by kernel_rfl) (fun _ _ _ h => h) (Or.inl ⟨by rfl, ?_⟩) hHeld ?_
                rotate_left 1
                · (intro w hSw; (try dsimp only at hSw); go_simp <;> with_reducible rfl)
                simp only [Act.put, List.setIfInBounds_toArray, List.set_cons_zero, List.set_cons_succ]
                refine wpAnyH_ready (rs := [12]) (by kernel_rfl) (by simp) ?_
                refine AllReadyH.cons (o := { dst := none, op := Go.Op.store 23 (Go.Operand.tmp 60) (Go.Operand.tmp 58), type := 0, pos := "rows.go:131", after := #[{ on := 11, ground := Go.Ground.data }, { on := 9, ground := Go.Ground.data }, { on := 9, ground := Go.Ground.chain }, { on := 0, ground := Go.Ground.phase }, { on := 1, ground := Go.Ground.phase }, { on := 2, ground := Go.Ground.phase }, { on := 3, ground := Go.Ground.phase }, { on := 4, ground := Go.Ground.phase }, { on := 5, ground := Go.Ground.phase }, { on := 6, ground := Go.Ground.phase }, { on := 7, ground := Go.Ground.phase }, { on := 8, ground := Go.Ground.phase }, { on := 9, ground := Go.Ground.phase }], guard := none }) rfl (fun K hK => ?_) AllReadyH.nil
                go_simp
                have hpq : wr.heap.size ≠ p := fun e => by have := HPL.out; have := HZ.out; omega
                clear hHeld
                refine hK.out _ _ ((World.cell?_of_block (Below.heap_setCell _ _ _ _ hpq)).trans bx7) (fun hHeld => ?_)
                clear hK K
                refine wpAnyH_done (by kernel_rfl) ?_ _
                have h1 := HPL.out
                have h2 := HZ.out
                have h3 := HLO.out
                have h4 := hwx.size
                have h5 : wc.heap.size ≤ w7.heap.size := hb7.size
                have bl7 : Below m w w7 := (HB.out.trans (hwx.mono (by omega))).trans (((Below.refl m wc).drew).trans (hb7.mono (by omega)))
                have HF1 : Hid (Below m w (w7.setCell ⟨p, 1, none⟩ (.slice p7 ys.length c7))) := below_set bl7 HLO.out.1.2
                have HF2 : Hid (w.heap.size ≤ (w7.setCell ⟨p, 1, none⟩ (.slice p7 ys.length c7)).heap.size) := by show _ ≤ _; simp only [World.setCell, Array.size_modify]; omega
                have HF3 : Hid ((w7.setCell ⟨p, 1, none⟩ (.slice p7 ys.length c7)).heap[w.heap.size]? = _) := (Below.heap_setCell _ _ _ _ (fun e => by have e2 : w.heap.size = p := e; omega)).trans g7r
                have hps := pt_len pt7
                have hbl := HBL.out
                have hnn := HN.out
                have hn1 := HM2.out.n1
                have HF4 : Hid (∃ pb1 cb1 bs1, (w7.setCell ⟨p, 1, none⟩ (.slice p7 ys.length c7)).heap[p]? = some (.cells #[.slice pu r.rows.length cu, .slice pb1 bs1.length cb1] 25 (0, 0)) ∧ OwnP lo p (w7.setCell ⟨p, 1, none⟩ (.slice p7 ys.length c7)) (.slice pu r.rows.length cu) (.slice pb1 bs1.length cb1) ⟨r.rows, bs1⟩ ∧ Puts r.brs (b.ws.take (j + 1)) bs1 ∧ SmD ⟨r.rows, bs1⟩ ∧ bs1.length ≤ r.brs.length + (j + 1)) := ⟨p7, c7, ys, by simp [World.setCell, Array.getElem?_modify, p7r], hD7.setP p7r, by rw [HTK.out]; exact Puts.snoc HPT.out pt7 HLX.out.2.1 HLX.out.2.2.1, ⟨HSM.out.r0, HSM.out.r1, by show ys.length ≤ 100000; omega, fun y hy => by rcases pt_mem pt7 y hy with h | h; rw [h]; exact ⟨HLX.out.1, HLX.out.2.2.2⟩; exact HSM.out.b1 y h⟩, by omega⟩
                have HW : Hid (wrap64 ((j : Int) + 1) = ((j + 1 : Nat) : Int)) := wr1 hlt (by omega)
                clear h1 h2 h3 h4 h5 bl7 hps hbl hnn hn1 hD7 p7r g7r q7r g7 pt7 hb7 hk7 ho7 px gx qx hDx hwx
                go_wp2_with fail
                exact ⟨⟨j + 1, hlt, by first | rfl | rw [HW.out], HF1, HF2, HF3, HF4⟩, meas hlt (by first | rfl | exact HW.out)⟩
              · have hc0 : (c == 0) = false := by simpa using hc
                go_wp2_with fail
                go_ret
                refine ⟨.inr (.inr (.inl ⟨HMM.out, HVER.out, (fun e => by rw [e] at hlt; exact absurd hlt (Nat.not_lt_zero _)), c, hc, rfl⟩)), HB.out.trans ((bel2 HA1.out hBx).mono ?_)⟩
                have := HPL.out
                have := HZ.out
                have := HLO.out
                omega
          · have hjj : j = b.ws.length := by omega
            subst hjj
            obtain ⟨pb', cb', bs', hp', hd', hpt, hsm, hbl⟩ := HI.out
            obtain ⟨vr2, vw2, hv2, hr2, hw2⟩ := HBT.out
            cases hv2
            rw [List.take_length] at hpt
            have HD' : Hid (OwnP lo p wr (.slice pu r.rows.length cu) (.slice pb' bs'.length cb') ⟨r.rows, bs'⟩) := hd'
            have HPT : Hid (Puts r.brs b.ws bs') := hpt
            have HSM : Hid (SmD ⟨r.rows, bs'⟩) := hsm
            have HP' : Hid (wr.heap[p]? = _) := hp'
            have HRR : Hid (Go.Proofs.YtkaaddahegkmgaaGreat.HB (fun B => B < m) w (.slice rp b.row.length rc) b.row) := hr2
            have f0 := row_cell hp' (j := 0) rfl
            have k0 := row_cell HG.out (j := 0) rfl
            have k1 : wr.cell? ⟨w.heap.size, 0 + 1, none⟩ = _ := row_cell HG.out (j := 1) rfl
            have k2 : wr.cell? ⟨w.heap.size, 0 + 2, none⟩ = _ := row_cell HG.out (j := 2) rfl
            have x0 := HM2.out.x0
            have x1 := HM2.out.x1
            have HWX : Hid (wrap64 (b.ex + 1) = b.ex + 1) := by show _ = _; unfold wrap64; omega
            have HWY : Hid (IntKind.i64.wrap (b.ex + 1) = b.ex + 1) := by show _ = _; rw [IntKind.wrap_i64]; omega
            clear x0 x1
            have CC : Hid (∀ W, Below wr.heap.size wr W → Calls Tryz.prog 68 _ W _) := fun W hW => clone_calls _ b.row W ((HRR.out.keep (w' := wr) (P' := fun _ => True) (fun B hB hl => ⟨HB.out.block B hB, trivial⟩)).below hW).bytes HN.out.1
            clear hd' hpt hsm hp' hr2 hw2 HI hbl
            go_upto_region 15 with fail
            refine wp_region_held_drew (S := (fun W => W.cell? ⟨w.heap.size, 0, none⟩ = some (.string b.key) ∧ W.cell? ⟨w.heap.size, 0 + 1, none⟩ = some (.int .i64 b.ex) ∧ W.cell? ⟨w.heap.size, 0 + 2, none⟩ = some (.slice rp b.row.length rc))) (by kernel_rfl) ⟨k0, k1, k2⟩ (fun hHeld => ?_)
            change wpAnyH _ _ _ _ _ _ _ _ (World.drew _)
            refine wpAnyH_take (i := 0) (oi := { dst := some 62, op := Go.Op.move (Go.Operand.tmp 0), type := 72, pos := "rows.go:133", after := #[], guard := none }) (v := ?_) rfl (by kernel_rfl) (by kernel_rfl) (by kernel_rfl) (fun _ _ _ h => h) (Or.inl ⟨by rfl, ?_⟩) hHeld ?_
            rotate_left 1
            · (intro w hSw; (try dsimp only at hSw); go_simp <;> with_reducible rfl)
            simp only [Act.put, List.setIfInBounds_toArray, List.set_cons_zero, List.set_cons_succ]
            refine wpAnyH_take (i := 1) (oi := { dst := some 63, op := Go.Op.move (Go.Operand.tmp 0), type := 72, pos := "rows.go:133", after := #[], guard := none }) (v := ?_) rfl (by kernel_rfl) (by kernel_rfl) (by kernel_rfl) (fun _ _ _ h => h) (Or.inl ⟨by rfl, ?_⟩) hHeld ?_
            rotate_left 1
            · (intro w hSw; (try dsimp only at hSw); go_simp <;> with_reducible rfl)
            simp only [Act.put, List.setIfInBounds_toArray, List.set_cons_zero, List.set_cons_succ]
            refine wpAnyH_take (i := 2) (oi := { dst := some 64, op := Go.Op.nilCheck (Go.Operand.tmp 63), type := 0, pos := "rows.go:133", after := #[{ on := 1, ground := Go.Ground.data }], guard := none }) (v := ?_) rfl (by kernel_rfl) (by kernel_rfl) (by kernel_rfl) (fun _ _ _ h => h) (Or.inl ⟨by rfl, ?_⟩) hHeld ?_
            rotate_left 1
            · (intro w hSw; (try dsimp only at hSw); go_simp <;> with_reducible rfl)
            simp only [Act.put, List.setIfInBounds_toArray, List.set_cons_zero, List.set_cons_succ]
            refine wpAnyH_take (i := 3) (oi := { dst := some 65, op := Go.Op.fieldAddr 25 (Go.Operand.tmp 64) 0, type := 0, pos := "rows.go:133", after := #[{ on := 2, ground := Go.Ground.data }], guard := none }) (v := ?_) rfl (by kernel_rfl) (by kernel_rfl) (by kernel_rfl) (fun _ _ _ h => h) (Or.inl ⟨by rfl, ?_⟩) hHeld ?_
            rotate_left 1
            · (intro w hSw; (try dsimp only at hSw); go_simp <;> with_reducible rfl)
            simp only [Act.put, List.setIfInBounds_toArray, List.set_cons_zero, List.set_cons_succ]
            refine wpAnyH_take (i := 5) (oi := { dst := some 67, op := Go.Op.fieldAddr 42 (Go.Operand.tmp 3) 0, type := 0, pos := "rows.go:133", after := #[], guard := none }) (v := ?_) rfl (by kernel_rfl) (by kernel_rfl) (by kernel_rfl) (fun _ _ _ h => h) (Or.inl ⟨by rfl, ?_⟩) hHeld ?_
            rotate_left 1
            · (intro w hSw; (try dsimp only at hSw); go_simp <;> with_reducible rfl)
            simp only [Act.put, List.setIfInBounds_toArray, List.set_cons_zero, List.set_cons_succ]
            refine wpAnyH_take (i := 6) (oi := { dst := some 68, op := Go.Op.load 9 (Go.Operand.tmp 67), type := 9, pos := "rows.go:133", after := #[{ on := 5, ground := Go.Ground.data }], guard := none }) (v := ?_) rfl (by kernel_rfl) (by kernel_rfl) (by kernel_rfl) (fun _ _ _ h => h) (Or.inl ⟨by rfl, ?_⟩) hHeld ?_
            rotate_left 1
            · (intro w hSw; (try dsimp only at hSw); go_simp <;> with_reducible rfl)
            simp only [Act.put, List.setIfInBounds_toArray, List.set_cons_zero, List.set_cons_succ]
            refine wpAnyH_take (i := 7) (oi := { dst := some 69, op := Go.Op.fieldAddr 42 (Go.Operand.tmp 3) 1, type := 0, pos := "rows.go:133", after := #[], guard := none }) (v := ?_) rfl (by kernel_rfl) (by kernel_rfl) (by kernel_rfl) (fun _ _ _ h => h) (Or.inl ⟨by rfl, ?_⟩) hHeld ?_
            rotate_left 1
            · (intro w hSw; (try dsimp only at hSw); go_simp <;> with_reducible rfl)
            simp only [Act.put, List.setIfInBounds_toArray, List.set_cons_zero, List.set_cons_succ]
            refine wpAnyH_take (i := 8) (oi := { dst := some 70, op := Go.Op.load 3 (Go.Operand.tmp 69), type := 3, pos := "rows.go:133", after := #[{ on := 7, ground := Go.Ground.data }], guard := none }) (v := ?_) rfl (by kernel_rfl) (by kernel_rfl) (by kernel_rfl) (fun _ _ _ h => h) (Or.inl ⟨by rfl, ?_⟩) hHeld ?_
            rotate_left 1
            · (intro w hSw; (try dsimp only at hSw); go_simp <;> with_reducible rfl)
            simp only [Act.put, List.setIfInBounds_toArray, List.set_cons_zero, List.set_cons_succ]
            refine wpAnyH_take (i := 9) (oi := { dst := some 71, op := Go.Op.binOp Go.BinOp.add 3 (Go.Operand.tmp 70) (Go.Operand.const (Go.Value.int Go.IntKind.i64 1)) 3, type := 3, pos := "rows.go:133", after := #[{ on := 8, ground := Go.Ground.data }], guard := none }) (v := ?_) rfl (by kernel_rfl) (by kernel_rfl) (by kernel_rfl) (fun _ _ _ h => h) (Or.inl ⟨by rfl, ?_⟩) hHeld ?_
            rotate_left 1
            · (intro w hSw; (try dsimp only at hSw); go_simp <;> with_reducible rfl)
            simp only [Act.put, List.setIfInBounds_toArray, List.set_cons_zero, List.set_cons_succ]
            refine wpAnyH_take (i := 10) (oi := { dst := some 72, op := Go.Op.fieldAddr 42 (Go.Operand.tmp 3) 2, type := 0, pos := "rows.go:133", after := #[], guard := none }) (v := ?_) rfl (by kernel_rfl) (by kernel_rfl) (by kernel_rfl) (fun _ _ _ h => h) (Or.inl ⟨by rfl, ?_⟩) hHeld ?_
            rotate_left 1
            · (intro w hSw; (try dsimp only at hSw); go_simp <;> with_reducible rfl)
            simp only [Act.put, List.setIfInBounds_toArray, List.set_cons_zero, List.set_cons_succ]
            refine wpAnyH_take (i := 11) (oi := { dst := some 73, op := Go.Op.load 26 (Go.Operand.tmp 72), type := 26, pos := "rows.go:133", after := #[{ on := 10, ground := Go.Ground.data }], guard := none }) (v := ?_) rfl (by kernel_rfl) (by kernel_rfl) (by kernel_rfl) (fun _ _ _ h => h) (Or.inl ⟨by rfl, ?_⟩) hHeld ?_
            rotate_left 1
            · (intro w hSw; (try dsimp only at hSw); go_simp <;> with_reducible rfl)
            simp only [Act.put, List.setIfInBounds_toArray, List.set_cons_zero, List.set_cons_succ]
            refine wpAnyH_ready (rs := [4, 12]) (by kernel_rfl) (by simp) ?_
            refine AllReadyH.cons (o := { dst := some 66, op := Go.Op.load 22 (Go.Operand.tmp 65), type := 22, pos := "rows.go:133", after := #[{ on := 3, ground := Go.Ground.data }], guard := none }) rfl (fun K hK => ?_) (AllReadyH.cons (o := { dst := some 74, op := Go.Op.call { callee := Go.Callee.value (Go.Operand.func 68), args := #[Go.Operand.tmp 73], argTypes := #[26] }, type := 26, pos := "rows.go:133", after := #[{ on := 11, ground := Go.Ground.data }], guard := none }) rfl (fun K hK => ?_) AllReadyH.nil)
            · go_simp
              clear hHeld
              refine hK.out _ _ (⟨k0, k1, k2⟩) (fun hHeld => ?_)
              clear hK K
              refine wpAnyH_ready (rs := [12]) (by kernel_rfl) (by simp) ?_
              refine AllReadyH.cons (o := { dst := some 74, op := Go.Op.call { callee := Go.Callee.value (Go.Operand.func 68), args := #[Go.Operand.tmp 73], argTypes := #[26] }, type := 26, pos := "rows.go:133", after := #[{ on := 11, ground := Go.Ground.data }], guard := none }) rfl (fun K hK => ?_) AllReadyH.nil
              go_simp
              refine (CC.out wr.drew (drewB0 wr)).mono ?_
              rintro e w6 ⟨v6, rfl, hv6, hb6⟩
              obtain ⟨p6, c6, rfl, _⟩ := hv6.shape
              have B6 : Below wr.heap.size wr w6 := drewB hb6
              clear hHeld
              refine hK.out _ _ (⟨cell_below k0 B6, cell_below k1 B6, cell_below k2 B6⟩) (fun hHeld => ?_)
              clear hK K
              refine wpAnyH_take (i := 13) (oi := { dst := some 75, op := Go.Op.build 47 #[(0, Go.Operand.tmp 68), (1, Go.Operand.tmp 71), (2, Go.Operand.tmp 74)], type := 47, pos := "rows.go:133", after := #[{ on := 6, ground := Go.Ground.data }, { on := 9, ground := Go.Ground.data }, { on := 12, ground := Go.Ground.data }], guard := none }) (v := ?_) rfl (by kernel_rfl) (by kernel_rfl) (by kernel_rfl) (fun _ _ _ h => h) (Or.inl ⟨by rfl, ?_⟩) hHeld ?_
              rotate_left 1
              · (intro w hSw; (try dsimp only at hSw); go_simp <;> with_reducible rfl)
              simp only [Act.put, List.setIfInBounds_toArray, List.set_cons_zero, List.set_cons_succ]
              have px := row_below B6 HP'.out
              have gx := row_below B6 HG.out
              have hDx := HD'.out.below B6
              have lb0 := HD'.out.brs.lt
              have lu0 := HD'.out.rows.lt
              have hlow : lo ≤ wr.heap.size := Nat.le_trans HLO.out.2 HZ.out
              have hs6 : wr.heap.size ≤ w6.heap.size := B6.size
              have PC : Hid (Calls Tryz.prog 67 #[.slice pu r.rows.length cu, .agg #[.string b.key, .int .i64 (b.ex + 1), .slice p6 b.row.length c6]] w6 _) := putrow_calls lo (fun B => (lo ≤ B ∧ B ≠ p) ∧ (Value.slice pb' bs'.length cb').ownBlock ≠ some B) _ _ r.rows ⟨b.key, b.ex + 1, b.row⟩ w6 hDx.rows (hv6.all (fun B hB => ⟨⟨⟨Nat.le_trans hlow hB, fun e => by have := HPL.out; have := HZ.out; have hB2 : wr.heap.size ≤ B := hB; omega⟩, fun e => by have := lb0 B e; have hB2 : wr.heap.size ≤ B := hB; omega⟩, fun e => by have := lu0 B e; have hB2 : wr.heap.size ≤ B := hB; omega⟩)) (by have := HN.out; omega) (Nat.le_trans hlow hs6)
              have HX : Hid (w6.heap[p]? = _ ∧ w6.heap[w.heap.size]? = _ ∧ OwnP lo p w6 _ _ ⟨r.rows, bs'⟩) := ⟨px, gx, hDx⟩
              clear px gx hDx lb0 lu0 hv6
              refine wpAnyH_ready (rs := [14]) (by kernel_rfl) (by simp) ?_
              refine AllReadyH.cons (o := { dst := some 76, op := Go.Op.call { callee := Go.Callee.value (Go.Operand.func 67), args := #[Go.Operand.tmp 66, Go.Operand.tmp 75], argTypes := #[22, 47] }, type := 22, pos := "rows.go:133", after := #[{ on := 4, ground := Go.Ground.data }, { on := 13, ground := Go.Ground.data }, { on := 12, ground := Go.Ground.chain }], guard := none }) rfl (fun K hK => ?_) AllReadyH.nil
              go_simp
              try simp only [HWY.out]
              refine PC.out.mono ?_
              rintro e w8 ⟨u8, ys, rfl, g8, pt8, hb8, hk8, ho8⟩
              obtain ⟨p8, c8, rfl, _⟩ := g8.shape
              obtain ⟨px, gx, hDx⟩ := HX.out
              have hnb : ∀ (B : Nat) (t : TypeId) (cs : Array Value), w6.heap[B]? = some (Obj.cells cs t (0, 0)) → t ≠ 47 → w8.heap[B]? = some (Obj.cells cs t (0, 0)) := fun B t cs hB ht => (hk8 B (lt_of_row hB) (gr_ne hDx.rows hB ht)).trans hB
              have p8r := hnb _ _ _ px (by decide)
              have g8r := hnb _ _ _ gx (by decide)
              have hD8 := hDx.putR g8 hk8 ho8
              have z0 := row_cell p8r (j := 0) rfl
              have z1 := row_cell p8r (j := 1) rfl
              have zf := row_frozen p8r
              have m0 := row_cell g8r (j := 0) rfl
              have m1 : w8.cell? ⟨w.heap.size, 0 + 1, none⟩ = _ := row_cell g8r (j := 1) rfl
              have m2 : w8.cell? ⟨w.heap.size, 0 + 2, none⟩ = _ := row_cell g8r (j := 2) rfl
              clear hHeld
              refine hK.out _ _ (⟨m0, m1, m2⟩) (fun hHeld => ?_)
              clear hK K
              refine wpAnyH_take (i := 15) (oi := { dst := some 77, op := Go.Op.nilCheck (Go.Operand.tmp 62), type := 0, pos := "rows.go:133", after := #[{ on := 0, ground := Go.Ground.data }, { on := 0, ground := Go.Ground.phase }, { on := 1, ground := Go.Ground.phase }, { on := 2, ground := Go.Ground.phase }, { on := 3, ground := Go.Ground.phase }, { on := 4, ground := Go.Ground.phase }, { on := 5, ground := Go.Ground.phase }, { on := 6, ground := Go.Ground.phase }, { on := 7, ground := Go.Ground.phase }, { on := 8, ground := Go.Ground.phase }, { on := 9, ground := Go.Ground.phase }, { on := 10, ground := Go.Ground.phase }, { on := 11, ground := Go.Ground.phase }, { on := 12, ground := Go.Ground.phase }, { on := 13, ground := Go.Ground.phase }, { on := 14, ground := Go.Ground.phase }], guard := none }) (v := ?_) rfl (by kernel_rfl) (by kernel_rfl) (by kernel_rfl) (fun _ _ _ h => h) (Or.inl ⟨by rfl, ?_⟩) hHeld ?_
              rotate_left 1
              · (intro w hSw; (try dsimp only at hSw); go_simp <;> with_reducible rfl)
              simp only [Act.put, List.setIfInBounds_toArray, List.set_cons_zero, List.set_cons_succ]
              refine wpAnyH_take (i := 16) (oi := { dst := some 78, op := Go.Op.fieldAddr 25 (Go.Operand.tmp 77) 0, type := 0, pos := "rows.go:133", after := #[{ on := 15, ground := Go.Ground.data }, { on := 0, ground := Go.Ground.phase }, { on := 1, ground := Go.Ground.phase }, { on := 2, ground := Go.Ground.phase }, { on := 3, ground := Go.Ground.phase }, { on := 4, ground := Go.Ground.phase }, { on := 5, ground := Go.Ground.phase }, { on := 6, ground := Go.Ground.phase }, { on := 7, ground := Go.Ground.phase }, { on := 8, ground := Go.Ground.phase }, { on := 9, ground := Go.Ground.phase }, { on := 10, ground := Go.Ground.phase }, { on := 11, ground := Go.Ground.phase }, { on := 12, ground := Go.Ground.phase }, { on := 13, ground := Go.Ground.phase }, { on := 14, ground := Go.Ground.phase }], guard := none }) (v := ?_) rfl (by kernel_rfl) (by kernel_rfl) (by kernel_rfl) (fun _ _ _ h => h) (Or.inl ⟨by rfl, ?_⟩) hHeld ?_
              rotate_left 1
              · (intro w hSw; (try dsimp only at hSw); go_simp <;> with_reducible rfl)
              simp only [Act.put, List.setIfInBounds_toArray, List.set_cons_zero, List.set_cons_succ]
              refine wpAnyH_ready (rs := [17]) (by kernel_rfl) (by simp) ?_
              refine AllReadyH.cons (o := { dst := none, op := Go.Op.store 22 (Go.Operand.tmp 78) (Go.Operand.tmp 76), type := 0, pos := "rows.go:133", after := #[{ on := 16, ground := Go.Ground.data }, { on := 14, ground := Go.Ground.data }, { on := 14, ground := Go.Ground.chain }, { on := 0, ground := Go.Ground.phase }, { on := 1, ground := Go.Ground.phase }, { on := 2, ground := Go.Ground.phase }, { on := 3, ground := Go.Ground.phase }, { on := 4, ground := Go.Ground.phase }, { on := 5, ground := Go.Ground.phase }, { on := 6, ground := Go.Ground.phase }, { on := 7, ground := Go.Ground.phase }, { on := 8, ground := Go.Ground.phase }, { on := 9, ground := Go.Ground.phase }, { on := 10, ground := Go.Ground.phase }, { on := 11, ground := Go.Ground.phase }, { on := 12, ground := Go.Ground.phase }, { on := 13, ground := Go.Ground.phase }, { on := 14, ground := Go.Ground.phase }], guard := none }) rfl (fun K hK => ?_) AllReadyH.nil
              go_simp
              have hgp : w.heap.size ≠ p := fun e => by have := HPL.out; omega
              clear hHeld
              refine hK.out _ _ (⟨(World.cell?_of_block (Below.heap_setCell _ _ _ _ hgp)).trans m0, (World.cell?_of_block (Below.heap_setCell _ _ _ _ hgp)).trans m1, (World.cell?_of_block (Below.heap_setCell _ _ _ _ hgp)).trans m2⟩) (fun hHeld => ?_)
              clear hK K
              refine wpAnyH_done (by kernel_rfl) ?_ _
              have h1 := HPL.out
              have h2 := HZ.out
              have h3 := HLO.out
              have bl8 : Below m w w8 := (HB.out.trans (B6.mono (by omega))).trans (hb8.mono (by omega))
              have hps := pt_len pt8
              have hnn := HN.out
              have HFIN : Hid (ChP m lo p r b w (.returned (.int .i64 0)) (w8.setCell ⟨p, 0, none⟩ (.slice p8 ys.length c8))) := ⟨.inr (.inr (.inr ⟨HMM.out, HVER.out, rfl, _, _, ⟨ys, bs'⟩, by simp [World.setCell, Array.getElem?_modify, p8r], hD8.setP p8r, pt8, HPT.out, ⟨by show ys.length ≤ 100000; omega, fun y hy => by rcases pt_mem pt8 y hy with h | h; rw [h]; exact hnn.1; exact HSM.out.r1 y h, HSM.out.b0, HSM.out.b1⟩⟩)), below_set bl8 HLO.out.1.2⟩
              clear h1 h2 h3 bl8 hps hnn hD8 p8r g8r g8 pt8 hb8 hk8 ho8 px gx hDx hnb
              go_wp2_with fail
              go_ret
              exact HFIN.out
            · go_simp
              refine (CC.out wr.drew (drewB0 wr)).mono ?_
              rintro e w6 ⟨v6, rfl, hv6, hb6⟩
              obtain ⟨p6, c6, rfl, _⟩ := hv6.shape
              have B6 : Below wr.heap.size wr w6 := drewB hb6
              have f0x := cell_below f0 B6
              clear hHeld
              refine hK.out _ _ (⟨cell_below k0 B6, cell_below k1 B6, cell_below k2 B6⟩) (fun hHeld => ?_)
              clear hK K
              refine wpAnyH_take (i := 13) (oi := { dst := some 75, op := Go.Op.build 47 #[(0, Go.Operand.tmp 68), (1, Go.Operand.tmp 71), (2, Go.Operand.tmp 74)], type := 47, pos := "rows.go:133", after := #[{ on := 6, ground := Go.Ground.data }, { on := 9, ground := Go.Ground.data }, { on := 12, ground := Go.Ground.data }], guard := none }) (v := ?_) rfl (by kernel_rfl) (by kernel_rfl) (by kernel_rfl) (fun _ _ _ h => h) (Or.inl ⟨by rfl, ?_⟩) hHeld ?_
              rotate_left 1
              · (intro w hSw; (try dsimp only at hSw); go_simp <;> with_reducible rfl)
              simp only [Act.put, List.setIfInBounds_toArray, List.set_cons_zero, List.set_cons_succ]
              refine wpAnyH_ready (rs := [4]) (by kernel_rfl) (by simp) ?_
              refine AllReadyH.cons (o := { dst := some 66, op := Go.Op.load 22 (Go.Operand.tmp 65), type := 22, pos := "rows.go:133", after := #[{ on := 3, ground := Go.Ground.data }], guard := none }) rfl (fun K hK => ?_) AllReadyH.nil
              go_simp
              clear hHeld
              refine hK.out _ _ (⟨cell_below k0 B6, cell_below k1 B6, cell_below k2 B6⟩) (fun hHeld => ?_)
              clear hK K
              have px := row_below B6 HP'.out
              have gx := row_below B6 HG.out
              have hDx := HD'.out.below B6
              have lb0 := HD'.out.brs.lt
              have lu0 := HD'.out.rows.lt
              have hlow : lo ≤ wr.heap.size := Nat.le_trans HLO.out.2 HZ.out
              have hs6 : wr.heap.size ≤ w6.heap.size := B6.size
              have PC : Hid (Calls Tryz.prog 67 #[.slice pu r.rows.length cu, .agg #[.string b.key, .int .i64 (b.ex + 1), .slice p6 b.row.length c6]] w6 _) := putrow_calls lo (fun B => (lo ≤ B ∧ B ≠ p) ∧ (Value.slice pb' bs'.length cb').ownBlock ≠ some B) _ _ r.rows ⟨b.key, b.ex + 1, b.row⟩ w6 hDx.rows (hv6.all (fun B hB => ⟨⟨⟨Nat.le_trans hlow hB, fun e => by have := HPL.out; have := HZ.out; have hB2 : wr.heap.size ≤ B := hB; omega⟩, fun e => by have := lb0 B e; have hB2 : wr.heap.size ≤ B := hB; omega⟩, fun e => by have := lu0 B e; have hB2 : wr.heap.size ≤ B := hB; omega⟩)) (by have := HN.out; omega) (Nat.le_trans hlow hs6)
              have HX : Hid (w6.heap[p]? = _ ∧ w6.heap[w.heap.size]? = _ ∧ OwnP lo p w6 _ _ ⟨r.rows, bs'⟩) := ⟨px, gx, hDx⟩
              clear px gx hDx lb0 lu0 hv6
              refine wpAnyH_ready (rs := [14]) (by kernel_rfl) (by simp) ?_
              refine AllReadyH.cons (o := { dst := some 76, op := Go.Op.call { callee := Go.Callee.value (Go.Operand.func 67), args := #[Go.Operand.tmp 66, Go.Operand.tmp 75], argTypes := #[22, 47] }, type := 22, pos := "rows.go:133", after := #[{ on := 4, ground := Go.Ground.data }, { on := 13, ground := Go.Ground.data }, { on := 12, ground := Go.Ground.chain }], guard := none }) rfl (fun K hK => ?_) AllReadyH.nil
              go_simp
              try simp only [HWY.out]
              refine PC.out.mono ?_
              rintro e w8 ⟨u8, ys, rfl, g8, pt8, hb8, hk8, ho8⟩
              obtain ⟨p8, c8, rfl, _⟩ := g8.shape
              obtain ⟨px, gx, hDx⟩ := HX.out
              have hnb : ∀ (B : Nat) (t : TypeId) (cs : Array Value), w6.heap[B]? = some (Obj.cells cs t (0, 0)) → t ≠ 47 → w8.heap[B]? = some (Obj.cells cs t (0, 0)) := fun B t cs hB ht => (hk8 B (lt_of_row hB) (gr_ne hDx.rows hB ht)).trans hB
              have p8r := hnb _ _ _ px (by decide)
              have g8r := hnb _ _ _ gx (by decide)
              have hD8 := hDx.putR g8 hk8 ho8
              have z0 := row_cell p8r (j := 0) rfl
              have z1 := row_cell p8r (j := 1) rfl
              have zf := row_frozen p8r
              have m0 := row_cell g8r (j := 0) rfl
              have m1 : w8.cell? ⟨w.heap.size, 0 + 1, none⟩ = _ := row_cell g8r (j := 1) rfl
              have m2 : w8.cell? ⟨w.heap.size, 0 + 2, none⟩ = _ := row_cell g8r (j := 2) rfl
              clear hHeld
              refine hK.out _ _ (⟨m0, m1, m2⟩) (fun hHeld => ?_)
              clear hK K
              refine wpAnyH_take (i := 15) (oi := { dst := some 77, op := Go.Op.nilCheck (Go.Operand.tmp 62), type := 0, pos := "rows.go:133", after := #[{ on := 0, ground := Go.Ground.data }, { on := 0, ground := Go.Ground.phase }, { on := 1, ground := Go.Ground.phase }, { on := 2, ground := Go.Ground.phase }, { on := 3, ground := Go.Ground.phase }, { on := 4, ground := Go.Ground.phase }, { on := 5, ground := Go.Ground.phase }, { on := 6, ground := Go.Ground.phase }, { on := 7, ground := Go.Ground.phase }, { on := 8, ground := Go.Ground.phase }, { on := 9, ground := Go.Ground.phase }, { on := 10, ground := Go.Ground.phase }, { on := 11, ground := Go.Ground.phase }, { on := 12, ground := Go.Ground.phase }, { on := 13, ground := Go.Ground.phase }, { on := 14, ground := Go.Ground.phase }], guard := none }) (v := ?_) rfl (by kernel_rfl) (by kernel_rfl) (by kernel_rfl) (fun _ _ _ h => h) (Or.inl ⟨by rfl, ?_⟩) hHeld ?_
              rotate_left 1
              · (intro w hSw; (try dsimp only at hSw); go_simp <;> with_reducible rfl)
              simp only [Act.put, List.setIfInBounds_toArray, List.set_cons_zero, List.set_cons_succ]
              refine wpAnyH_take (i := 16) (oi := { dst := some 78, op := Go.Op.fieldAddr 25 (Go.Operand.tmp 77) 0, type := 0, pos := "rows.go:133", after := #[{ on := 15, ground := Go.Ground.data }, { on := 0, ground := Go.Ground.phase }, { on := 1, ground := Go.Ground.phase }, { on := 2, ground := Go.Ground.phase }, { on := 3, ground := Go.Ground.phase }, { on := 4, ground := Go.Ground.phase }, { on := 5, ground := Go.Ground.phase }, { on := 6, ground := Go.Ground.phase }, { on := 7, ground := Go.Ground.phase }, { on := 8, ground := Go.Ground.phase }, { on := 9, ground := Go.Ground.phase }, { on := 10, ground := Go.Ground.phase }, { on := 11, ground := Go.Ground.phase }, { on := 12, ground := Go.Ground.phase }, { on := 13, ground := Go.Ground.phase }, { on := 14, ground := Go.Ground.phase }], guard := none }) (v := ?_) rfl (by kernel_rfl) (by kernel_rfl) (by kernel_rfl) (fun _ _ _ h => h) (Or.inl ⟨by rfl, ?_⟩) hHeld ?_
              rotate_left 1
              · (intro w hSw; (try dsimp only at hSw); go_simp <;> with_reducible rfl)
              simp only [Act.put, List.setIfInBounds_toArray, List.set_cons_zero, List.set_cons_succ]
              refine wpAnyH_ready (rs := [17]) (by kernel_rfl) (by simp) ?_
              refine AllReadyH.cons (o := { dst := none, op := Go.Op.store 22 (Go.Operand.tmp 78) (Go.Operand.tmp 76), type := 0, pos := "rows.go:133", after := #[{ on := 16, ground := Go.Ground.data }, { on := 14, ground := Go.Ground.data }, { on := 14, ground := Go.Ground.chain }, { on := 0, ground := Go.Ground.phase }, { on := 1, ground := Go.Ground.phase }, { on := 2, ground := Go.Ground.phase }, { on := 3, ground := Go.Ground.phase }, { on := 4, ground := Go.Ground.phase }, { on := 5, ground := Go.Ground.phase }, { on := 6, ground := Go.Ground.phase }, { on := 7, ground := Go.Ground.phase }, { on := 8, ground := Go.Ground.phase }, { on := 9, ground := Go.Ground.phase }, { on := 10, ground := Go.Ground.phase }, { on := 11, ground := Go.Ground.phase }, { on := 12, ground := Go.Ground.phase }, { on := 13, ground := Go.Ground.phase }, { on := 14, ground := Go.Ground.phase }], guard := none }) rfl (fun K hK => ?_) AllReadyH.nil
              go_simp
              have hgp : w.heap.size ≠ p := fun e => by have := HPL.out; omega
              clear hHeld
              refine hK.out _ _ (⟨(World.cell?_of_block (Below.heap_setCell _ _ _ _ hgp)).trans m0, (World.cell?_of_block (Below.heap_setCell _ _ _ _ hgp)).trans m1, (World.cell?_of_block (Below.heap_setCell _ _ _ _ hgp)).trans m2⟩) (fun hHeld => ?_)
              clear hK K
              refine wpAnyH_done (by kernel_rfl) ?_ _
              have h1 := HPL.out
              have h2 := HZ.out
              have h3 := HLO.out
              have bl8 : Below m w w8 := (HB.out.trans (B6.mono (by omega))).trans (hb8.mono (by omega))
              have hps := pt_len pt8
              have hnn := HN.out
              have HFIN : Hid (ChP m lo p r b w (.returned (.int .i64 0)) (w8.setCell ⟨p, 0, none⟩ (.slice p8 ys.length c8))) := ⟨.inr (.inr (.inr ⟨HMM.out, HVER.out, rfl, _, _, ⟨ys, bs'⟩, by simp [World.setCell, Array.getElem?_modify, p8r], hD8.setP p8r, pt8, HPT.out, ⟨by show ys.length ≤ 100000; omega, fun y hy => by rcases pt_mem pt8 y hy with h | h; rw [h]; exact hnn.1; exact HSM.out.r1 y h, HSM.out.b0, HSM.out.b1⟩⟩)), below_set bl8 HLO.out.1.2⟩
              clear h1 h2 h3 bl8 hps hnn hD8 p8r g8r g8 pt8 hb8 hk8 ho8 px gx hDx hnb
              go_wp2_with fail
              go_ret
              exact HFIN.out
      · have hvb : (vx == b.ex) = false := by simpa using hve
        go_wp2_with fail
        go_ret
        exact ⟨.inr (.inl ⟨hm, fun h => hve (ver_det HVER.out h), rfl⟩), (bel2 HB2.out HB4.out).mono (Nat.le_trans HLO.out.1.2 (Nat.le_of_lt HPL.out))⟩
  · have hck : ckE b = 1 := by unfold ckE; rw [if_neg hm]
    rw [hck]
    go_wp2_with fail
    go_ret
    exact ⟨.inl ⟨by simpa using hm, rfl⟩, HB2.out.mono (Nat.le_trans HLO.out.1.2 (Nat.le_of_lt HPL.out))⟩
end Go.Proofs.YtkaaddahegkmgaaGreat
