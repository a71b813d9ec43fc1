/- Arguments that are rows, and arguments that are a batch, and how great they are. -/
import Derived.Test.YtkaaddahegkmgaaRows
import Derived.Test.YtkaaddahegkmgaaRP
import Derived.Test.YtkaaddahegkmgaaRF
namespace Go.Proofs.Ytkaaddahegkmgaa
open Go.ChangeShapes Go.WideShapes Go.ChangeAt Go.RowKit Go.Deep
/-- How great an event, a list of events, a row, a branch, a write are. -/
def szE (e : List UInt8) : Nat := e.length + 1
def szL (l : List (List UInt8)) : Nat := (l.map szE).sum + 1
def szRw (x : Rw) : Nat := x.row.length + 1
def szBn (x : Bn) : Nat := szL x.ev + 1
def szWt (t : Wt) : Nat := szL t.ev + 1
/-- How great rows, and a batch, are. -/
def szDb (r : Db) : Nat := (r.rows.map szRw).sum + (r.brs.map szBn).sum
def szBt (b : Bt) : Nat := b.row.length + (b.ws.map szWt).sum
theorem bulk_pos {H : Type} (x : DataW H) : 1 ≤ Rows.uptoBulk x := by
  cases x with
  | lit l => cases l <;> simp [Rows.uptoBulk]
  | nil => simp [Rows.uptoBulk]
  | ptr d => simp [Rows.uptoBulk]
  | slice elems spare => simp [Rows.uptoBulk]
  | agg parts => simp [Rows.uptoBulk]
  | iface t d => simp [Rows.uptoBulk]
  | map entries => simp [Rows.uptoBulk]
  | held h => simp [Rows.uptoBulk]
theorem bulk_len {H : Type} (l : List (DataW H)) : l.length ≤ Rows.uptoBulkAll l := by
  induction l with
  | nil => simp [Rows.uptoBulkAll]
  | cons x r ih =>
    have h1 := bulk_pos x
    simp only [Rows.uptoBulkAll, List.length_cons]; omega
theorem bulk_sum {H : Type} {α : Type} (sz : α → Nat) : ∀ (ls : List α) (l : List (DataW H)), ls.length ≤ l.length → (∀ (i : Nat) (y : α) (d : DataW H), ls[i]? = some y → l[i]? = some d → sz y ≤ Rows.uptoBulk d) → (ls.map sz).sum ≤ Rows.uptoBulkAll l
  | [], _, _, _ => Nat.zero_le _
  | _ :: _, [], hl, _ => by simp at hl
  | y :: ls, d :: l, hl, h => by
    have h0 := h 0 y d rfl rfl
    have h1 := bulk_sum sz ls l (by simpa using hl) fun i y' d' hy hd => h (i + 1) y' d' hy hd
    simp only [Rows.uptoBulkAll, List.map_cons, List.sum_cons]; omega
section
variable {H : Type} {enc : TypeId × Value → H} {W : World} {base : Nat} {spare : Nat → Bool} {held : Bool}
theorem bulk_hb (fuel : Nat) (cs : List Value) (x : DataW H × List MemPlace) (h : DataW.trod enc Try.prog W base spare held fuel 26 cs = some x) : ∃ v l, cs = [v] ∧ HB (fun _ => True) W v l ∧ szE l ≤ Rows.uptoBulk x.1 := by
  rcases open_ints Try.underlying26 Try.underlying5 (by kernel_rfl) h with ⟨hcs, hx⟩ | ⟨y, len, c, zs, hcs, _, hl, hm, hz, hx, hcell, hwz⟩
  · exact ⟨_, [], hcs, HB.nil _ W, bulk_pos _⟩
  · have hzl : len ≤ zs.length := by
      have hz2 : zs.length = if spare y.block = true then c else len := by simpa using hz
      rw [hz2]
      split
      · exact hl
      · exact Nat.le_refl _
    have hlen : ((zs.take len).map fun z => UInt8.ofNat z.toNat).length = len := by rw [List.length_map, List.length_take]; omega
    unfold maxLen at hm
    refine ⟨_, (zs.take len).map fun z => UInt8.ofNat z.toNat, hcs, ⟨some y, c, by rw [hlen], by rw [hlen]; exact hl, by omega, ?_⟩, ?_⟩
    · intro i u hu
      rw [List.getElem?_map] at hu
      obtain ⟨z, hz1, rfl⟩ := Option.map_eq_some_iff.1 hu
      have hi : i < (zs.take len).length := (List.getElem?_eq_some_iff.1 hz1).1
      rw [List.length_take] at hi
      rw [List.getElem?_take_of_lt (by omega)] at hz1
      have hw := hwz z (List.mem_of_getElem? hz1)
      simp only [Lit.wf, IntKind.min, IntKind.max, IntKind.signed, IntKind.bits, Bool.and_eq_true, decide_eq_true_eq, Bool.false_eq_true, if_false] at hw
      have e : ((UInt8.ofNat z.toNat).toNat : Int) = z := by rw [UInt8.toNat_ofNat']; omega
      have hc := hcell i (by omega)
      rw [List.getD_eq_getElem?_getD, hz1] at hc
      obtain ⟨B, o, rfl⟩ := spot_zero (hcell 0 (by omega))
      refine ⟨B, o, rfl, trivial, ?_⟩
      rw [addp] at hc
      rw [hc, eb, e]
      rfl
    · have h1 := bulk_len (H := H) (lits .u8 (zs.take len))
      have h2 : (lits (H := H) .u8 (zs.take len)).length = len := by simp [lits]; omega
      rw [hx]
      simp only [szE, Rows.uptoBulk, hlen]
      omega
/-- A list, where its items are opened. -/
theorem bulk_list {α : Type} {E : El α} {T : TypeId} (sz : α → Nat) (hK : 0 < E.K) (hu : Try.prog.underlying T = some (.slice E.ty)) (hcells : Try.prog.cellsOf E.ty = E.K)
    (el : ∀ (fuel : Nat) (cs : List Value) (x : DataW H × List MemPlace), DataW.trod enc Try.prog W base spare held fuel E.ty cs = some x → ∃ y, E.I (fun _ => True) W cs y ∧ sz y ≤ Rows.uptoBulk x.1)
    (fuel : Nat) (cs : List Value) (x : DataW H × List MemPlace) (h : DataW.trod enc Try.prog W base spare held fuel T cs = some x) : ∃ v ls, cs = [v] ∧ Sl E (fun _ => True) W v ls ∧ (ls.map sz).sum + 1 ≤ Rows.uptoBulk x.1 := by
  rcases DataW.trod_slice hu h with ⟨h4, _⟩ | ⟨a, len, cap, elems, rest, q, hq, h4, hX, _, hl, hm, he, hx, _, _⟩
  · exact ⟨_, [], h4, Sl.nil _ _, bulk_pos _⟩
  · unfold maxLen at hm
    have each : ∀ i, i < len → ∃ y : α, ∃ B o, ∃ cs : List Value, a = ⟨B, o, none⟩ ∧ (∀ r z, cs[r]? = some z → W.cell? ⟨B, o + i * E.K + r, none⟩ = some z) ∧ E.I (fun _ => True) W cs y ∧ ∀ d, elems[i]? = some d → sz y ≤ Rows.uptoBulk d.1 := by
      intro i hi
      have key := hx i hi
      have hei : elems[i]? = some elems[i] := List.getElem?_eq_getElem (by omega)
      rw [hei] at key
      obtain ⟨cs', k1, k2⟩ := Option.bind_eq_some_iff.1 key
      obtain ⟨y, hy, hsz⟩ := el q cs' _ k2
      rw [hcells] at k1
      obtain ⟨_, hl', hcell⟩ := World.cells?_some k1
      have hcl := E.len hy
      have hsp : ∃ B o, a = ⟨B, o, none⟩ := by
        have key0 := hx 0 (by omega)
        rw [List.getElem?_eq_getElem (by omega)] at key0
        obtain ⟨cs0, k10, k20⟩ := Option.bind_eq_some_iff.1 key0
        obtain ⟨y0, hy0, _⟩ := el q cs0 _ k20
        rw [hcells] at k10
        obtain ⟨_, _, hcell0⟩ := World.cells?_some k10
        have hcl0 := E.len hy0
        have p0 := hcell0 0 (by omega)
        rw [add_add, Nat.zero_mul, Nat.add_zero] at p0
        have hz0 : cs0[0]? = some cs0[0] := List.getElem?_eq_getElem (by omega)
        rw [hz0] at p0
        exact spot_zero p0
      obtain ⟨B, o, rfl⟩ := hsp
      refine ⟨y, B, o, cs', rfl, fun r z hz => ?_, hy, fun d hd => ?_⟩
      · have hr : r < E.K := by have := (List.getElem?_eq_some_iff.1 hz).1; omega
        have pr := hcell r (by omega)
        rw [addp, addp] at pr
        rw [pr, hz]
      · rw [hei] at hd
        cases hd
        exact hsz
    rcases Nat.eq_zero_or_pos len with h0 | h0
    · subst h0
      exact ⟨_, [], h4, ⟨some a, cap, rfl, Nat.zero_le _, by omega, Ls.nil _ _ _⟩, bulk_pos _⟩
    have inh : Inhabited α := ⟨(each 0 h0).choose⟩
    obtain ⟨F, hF⟩ := choose_lt each
    refine ⟨_, (List.range len).map F, h4, ⟨some a, cap, by simp, by simpa using hl, by omega, fun i p hp => ?_⟩, ?_⟩
    · have hi : i < len := by have := (List.getElem?_eq_some_iff.1 hp).1; simpa using this
      rw [List.getElem?_map, List.getElem?_range hi] at hp
      cases hp
      obtain ⟨B, o, cs, ha, hc, hI, _⟩ := hF i hi
      exact ⟨B, o, cs, by rw [ha], fun _ => trivial, hc, hI⟩
    · have hs := bulk_sum sz ((List.range len).map F) (elems.map (·.1)) (by simp [he]) fun i y d hy hd => by
        have hi : i < len := by have := (List.getElem?_eq_some_iff.1 hy).1; simpa using this
        rw [List.getElem?_map, List.getElem?_range hi] at hy
        cases hy
        rw [List.getElem?_map] at hd
        obtain ⟨d', hd', rfl⟩ := Option.map_eq_some_iff.1 hd
        obtain ⟨_, _, _, _, _, _, hsz⟩ := hF i hi
        exact hsz d' hd'
      rw [hX]
      simp only [Rows.uptoBulk]
      omega
theorem bulk_ev (fuel : Nat) (cs : List Value) (x : DataW H × List MemPlace) (h : DataW.trod enc Try.prog W base spare held fuel 26 cs = some x) : ∃ y, evE.I (fun _ => True) W cs y ∧ szE y ≤ Rows.uptoBulk x.1 := by
  obtain ⟨v, l, hc, hv, hs⟩ := bulk_hb fuel cs x h
  exact ⟨l, ⟨v, hc, hv⟩, hs⟩
theorem bulk_evl (fuel : Nat) (cs : List Value) (x : DataW H × List MemPlace) (h : DataW.trod enc Try.prog W base spare held fuel 40 cs = some x) : ∃ v ls, cs = [v] ∧ Sl evE (fun _ => True) W v ls ∧ szL ls ≤ Rows.uptoBulk x.1 :=
  bulk_list (E := evE) szE (by decide) Try.underlying40 cells22 bulk_ev fuel cs x h
set_option maxRecDepth 100000 in
theorem bulk_rw (fuel : Nat) (cs : List Value) (x : DataW H × List MemPlace) (h : DataW.trod enc Try.prog W base spare held fuel 37 cs = some x) : ∃ y, rowE.I (fun _ => True) W cs y ∧ szRw y ≤ Rows.uptoBulk x.1 := by
  obtain ⟨xs, k, hk, hxy, hlen, hxl, hf⟩ := DataW.trod_struct Try.underlying37 h
  rw [cells37] at hlen
  obtain ⟨c0, c1, c2, rfl⟩ := list3 hlen
  obtain ⟨y0, y1, y2, rfl⟩ := list3 (l := xs) hxl
  have g0 := hf 0 _ rfl
  have g1 := hf 1 _ rfl
  have g2 := hf 2 _ rfl
  clear hf hxl hlen h
  simp only [List.getElem?_cons_zero, List.getElem?_cons_succ] at g0 g1 g2
  obtain ⟨s0, e0, _, _⟩ := DataW.trod_string Try.underlying9 g0
  obtain ⟨n1, e1, _, _⟩ := DataW.trod_int Try.underlying3 g1
  obtain ⟨v2, l, e2, hv, hs⟩ := bulk_hb _ _ _ g2
  cases e0; cases e1; cases e2
  refine ⟨⟨s0, n1, l⟩, ⟨_, rfl, hv⟩, ?_⟩
  rw [hxy]
  simp only [szE, szRw, List.map_cons, List.map_nil, Rows.uptoBulk, Rows.uptoBulkAll] at hs ⊢
  omega
set_option maxRecDepth 100000 in
theorem bulk_bn (fuel : Nat) (cs : List Value) (x : DataW H × List MemPlace) (h : DataW.trod enc Try.prog W base spare held fuel 56 cs = some x) : ∃ y, brE.I (fun _ => True) W cs y ∧ szBn y ≤ Rows.uptoBulk x.1 := by
  obtain ⟨xs, k, hk, hxy, hlen, hxl, hf⟩ := DataW.trod_struct Try.underlying56 h
  rw [cells56] at hlen
  obtain ⟨c0, c1, rfl⟩ := list2 hlen
  obtain ⟨y0, y1, rfl⟩ := list2 (l := xs) hxl
  have g0 := hf 0 _ rfl
  have g1 := hf 1 _ rfl
  clear hf hxl hlen h
  simp only [List.getElem?_cons_zero, List.getElem?_cons_succ] at g0 g1
  obtain ⟨s0, e0, _, _⟩ := DataW.trod_string Try.underlying9 g0
  obtain ⟨v1, l, e1, hv, hs⟩ := bulk_evl _ _ _ g1
  cases e0; cases e1
  refine ⟨⟨s0, l⟩, ⟨_, rfl, hv⟩, ?_⟩
  have := bulk_pos y0.1
  rw [hxy]
  simp only [szBn, List.map_cons, List.map_nil, Rows.uptoBulk, Rows.uptoBulkAll]
  omega
set_option maxRecDepth 100000 in
/-- An argument that is rows. -/
theorem bulk_db (fuel : Nat) (cs : List Value) (x : DataW H × List MemPlace) (h : DataW.trod enc Try.prog W base spare held fuel 25 cs = some x) : ∃ u b r, cs = [u, b] ∧ IsR (fun _ => True) W (.agg #[u, b]) r ∧ szDb r ≤ Rows.uptoBulk x.1 := by
  obtain ⟨xs, k, hk, hxy, hlen, hxl, hf⟩ := DataW.trod_struct Try.underlying25 h
  rw [cellsD25] at hlen
  obtain ⟨c0, c1, rfl⟩ := list2 hlen
  obtain ⟨y0, y1, rfl⟩ := list2 (l := xs) hxl
  have g0 := hf 0 _ rfl
  have g1 := hf 1 _ rfl
  clear hf hxl hlen h
  simp only [List.getElem?_cons_zero, List.getElem?_cons_succ] at g0 g1
  obtain ⟨u, rs, e0, hu, s0⟩ := bulk_list (E := rowE) szRw (by decide) Try.underlying22 cells37 bulk_rw _ _ _ g0
  obtain ⟨b, bs, e1, hb, s1⟩ := bulk_list (E := brE) szBn (by decide) Try.underlying23 cells56 bulk_bn _ _ _ g1
  cases e0; cases e1
  refine ⟨_, _, ⟨rs, bs⟩, rfl, ⟨_, _, rfl, hu, hb⟩, ?_⟩
  rw [hxy]
  simp only [szDb, List.map_cons, List.map_nil, Rows.uptoBulk, Rows.uptoBulkAll]
  omega
set_option maxRecDepth 100000 in
theorem bulk_wt (fuel : Nat) (cs : List Value) (x : DataW H × List MemPlace) (h : DataW.trod enc Try.prog W base spare held fuel 47 cs = some x) : ∃ t, wtE.I (fun _ => True) W cs t ∧ szWt t ≤ Rows.uptoBulk x.1 := by
  obtain ⟨xs, k, hk, hxy, hlen, hxl, hf⟩ := DataW.trod_struct Try.underlying47 h
  rw [cells42] at hlen
  obtain ⟨c0, c1, c2, c3, c4, rfl⟩ := list5 hlen
  obtain ⟨y0, y1, y2, y3, y4, rfl⟩ := list5 (l := xs) hxl
  have g0 := hf 0 _ rfl
  have g1 := hf 1 _ rfl
  have g2 := hf 2 _ rfl
  have g3 := hf 3 _ rfl
  have g4 := hf 4 _ rfl
  clear hf hxl hlen h
  simp only [List.getElem?_cons_zero, List.getElem?_cons_succ] at g0 g1 g2 g3 g4
  obtain ⟨s0, e0, _, _⟩ := DataW.trod_string Try.underlying9 g0
  obtain ⟨s1, e1, _, _⟩ := DataW.trod_string Try.underlying9 g1
  obtain ⟨n2, e2, _, _⟩ := DataW.trod_int Try.underlying3 g2
  obtain ⟨n3, e3, _, _⟩ := DataW.trod_int Try.underlying3 g3
  obtain ⟨v4, ls, e4, hl, hs⟩ := bulk_evl _ _ _ g4
  cases e0; cases e1; cases e2; cases e3; cases e4
  refine ⟨⟨s0, s1, n2, n3, ls⟩, ⟨_, rfl, hl⟩, ?_⟩
  have := bulk_pos y0.1
  rw [hxy]
  simp only [szWt, List.map_cons, List.map_nil, Rows.uptoBulk, Rows.uptoBulkAll]
  omega
set_option maxRecDepth 100000 in
/-- An argument that is a batch. -/
theorem bulk_btS (fuel : Nat) (cs : List Value) (x : DataW H × List MemPlace) (h : DataW.trod enc Try.prog W base spare held fuel 29 cs = some x) : ∃ c0 c1 c2 c3 b, cs = [c0, c1, c2, c3] ∧ BtS (fun _ => True) W (.agg #[c0, c1, c2, c3]) b ∧ szBt b ≤ Rows.uptoBulk x.1 := by
  obtain ⟨xs, k, hk, hxy, hlen, hxl, hf⟩ := DataW.trod_struct Try.underlying29 h
  rw [cells25] at hlen
  obtain ⟨c0, c1, c2, c3, rfl⟩ := list4 hlen
  obtain ⟨y0, y1, y2, y3, rfl⟩ := list4 (l := xs) hxl
  have g0 := hf 0 _ rfl
  have g1 := hf 1 _ rfl
  have g2 := hf 2 _ rfl
  have g3 := hf 3 _ rfl
  clear hf hxl hlen h
  simp only [List.getElem?_cons_zero, List.getElem?_cons_succ] at g0 g1 g2 g3
  obtain ⟨s0, e0, _, _⟩ := DataW.trod_string Try.underlying9 g0
  obtain ⟨n1, e1, _, _⟩ := DataW.trod_int Try.underlying3 g1
  obtain ⟨vr, row, e2, hr, z2⟩ := bulk_hb _ _ _ g2
  obtain ⟨vw, ws, e3, hw, z3⟩ := bulk_list (E := wtE) szWt (by decide) Try.underlying27 cells42 bulk_wt _ _ _ g3
  cases e0; cases e1; cases e2; cases e3
  refine ⟨_, _, _, _, ⟨s0, n1, row, ws⟩, rfl, ⟨_, _, rfl, hr, hw⟩, ?_⟩
  rw [hxy]
  simp only [szE, szBt, List.map_cons, List.map_nil, Rows.uptoBulk, Rows.uptoBulkAll] at z2 ⊢
  omega
end
/-- What is small. -/
theorem sum_mem {α : Type} (f : α → Nat) {l : List α} {y : α} (h : y ∈ l) : f y ≤ (l.map f).sum := by
  induction l with
  | nil => cases h
  | cons x r ih =>
    simp only [List.map_cons, List.sum_cons]
    rcases List.mem_cons.1 h with rfl | h
    · omega
    · have := ih h; omega
theorem sum_len {α : Type} (f : α → Nat) (l : List α) (h : ∀ y ∈ l, 1 ≤ f y) : l.length ≤ (l.map f).sum := by
  induction l with
  | nil => simp
  | cons x r ih =>
    have h1 := h x (List.mem_cons_self ..)
    have h2 := ih fun y hy => h y (List.mem_cons_of_mem _ hy)
    simp only [List.map_cons, List.sum_cons, List.length_cons]; omega
theorem szL_small {l : List (List UInt8)} {n : Nat} (h : szL l ≤ n) : l.length ≤ n ∧ ∀ e ∈ l, e.length ≤ n := by
  unfold szL at h
  have h1 := sum_len szE l fun y _ => by unfold szE; omega
  refine ⟨by omega, fun e he => ?_⟩
  have h2 := sum_mem szE he
  have h3 : szE e = e.length + 1 := rfl
  omega
/-- How many few counts. -/
def evN (r : Db) : Nat := (r.brs.map fun x => x.ev.length).sum
def wsN (b : Bt) : Nat := (b.ws.map fun t => 1 + t.ev.length).sum
theorem sum_le {α : Type} (f g : α → Nat) (l : List α) (h : ∀ y ∈ l, f y ≤ g y) : (l.map f).sum ≤ (l.map g).sum := by
  induction l with
  | nil => simp
  | cons x r ih =>
    have h1 := h x (List.mem_cons_self ..)
    have h2 := ih fun y hy => h y (List.mem_cons_of_mem _ hy)
    simp only [List.map_cons, List.sum_cons]; omega
theorem evN_sz (r : Db) : r.rows.length + r.brs.length + evN r ≤ 2 * szDb r := by
  have h1 := sum_len szRw r.rows fun y _ => by unfold szRw; omega
  have h2 := sum_len szBn r.brs fun y _ => by unfold szBn; omega
  have h3 := sum_le (fun x : Bn => x.ev.length) szBn r.brs fun y _ => by
    have := (szL_small (Nat.le_refl (szL y.ev))).1
    unfold szBn; omega
  unfold evN szDb; omega
theorem wsN_sz (b : Bt) : wsN b ≤ szBt b := by
  have h3 := sum_le (fun t : Wt => 1 + t.ev.length) szWt b.ws fun y _ => by
    have := (szL_small (Nat.le_refl (szL y.ev))).1
    unfold szWt; omega
  unfold wsN szBt; omega
theorem smD_of {r : Db} {n : Nat} (h : szDb r ≤ n) (hn : n ≤ 1048576) (hf : r.rows.length + r.brs.length + evN r ≤ 400) : SmD r := by
  unfold szDb at h
  refine ⟨by omega, fun e he => ?_, by omega, fun x hx => ⟨?_, fun e he => ?_⟩⟩
  · have h1 := sum_mem szRw he
    unfold szRw at h1
    unfold szRw at h
    omega
  · have h1 := sum_mem (fun x : Bn => x.ev.length) hx
    unfold evN at hf
    omega
  · have h1 := sum_mem szBn hx
    have h2 := (szL_small (Nat.le_refl (szL x.ev))).2 e he
    have h3 : szBn x = szL x.ev + 1 := rfl
    omega
theorem row_small {b : Bt} {n : Nat} (h : szBt b ≤ n) : b.row.length ≤ n := by unfold szBt at h; omega
end Go.Proofs.Ytkaaddahegkmgaa
