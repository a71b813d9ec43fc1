/- RU, RS, RV, TS, RT, put together. -/
import Derived.Test.YtkaaddahegkmgaaGreatRows
import Derived.Test.YtkaaddahegkmgaaGreatMO
import Derived.Test.YtkaaddahegkmgaaGreatRF
import Derived.Test.YtkaaddahegkmgaaGreatRR
import Derived.Test.YtkaaddahegkmgaaGreatSD
import Derived.Lib.SlBytesConst
namespace Go.Proofs.YtkaaddahegkmgaaGreat
open Go.ChangeShapes Go.WideShapes Go.ChangeAt Go.RowKit Go.Deep
/-- How great an event, a list of events, a row, a branch, a write are. -/
def szE (e : List UInt8) : Nat := e.length + 1
def szL (l : List (List UInt8)) : Nat := (l.map szE).sum + 1
def szRw (x : Rw) : Nat := x.row.length + 1
def szBn (x : Bn) : Nat := szL x.ev + 1
def szWt (t : Wt) : Nat := szL t.ev + 1
/-- How great rows, and a batch, are. -/
def szDb (r : Db) : Nat := (r.rows.map szRw).sum + (r.brs.map szBn).sum
def szBt (b : Bt) : Nat := b.row.length + (b.ws.map szWt).sum
theorem bulk_pos {H : Type} (x : DataW H) : 1 ≤ Rows.uptoBulk x := by
  cases x with
  | lit l => cases l <;> simp [Rows.uptoBulk]
  | nil => simp [Rows.uptoBulk]
  | ptr d => simp [Rows.uptoBulk]
  | slice elems spare => simp [Rows.uptoBulk]
  | agg parts => simp [Rows.uptoBulk]
  | iface t d => simp [Rows.uptoBulk]
  | map entries => simp [Rows.uptoBulk]
  | held h => simp [Rows.uptoBulk]
theorem bulk_len {H : Type} (l : List (DataW H)) : l.length ≤ Rows.uptoBulkAll l := by
  induction l with
  | nil => simp [Rows.uptoBulkAll]
  | cons x r ih =>
    have h1 := bulk_pos x
    simp only [Rows.uptoBulkAll, List.length_cons]; omega
theorem bulk_sum {H : Type} {α : Type} (sz : α → Nat) : ∀ (ls : List α) (l : List (DataW H)), ls.length ≤ l.length → (∀ (i : Nat) (y : α) (d : DataW H), ls[i]? = some y → l[i]? = some d → sz y ≤ Rows.uptoBulk d) → (ls.map sz).sum ≤ Rows.uptoBulkAll l
  | [], _, _, _ => Nat.zero_le _
  | _ :: _, [], hl, _ => by simp at hl
  | y :: ls, d :: l, hl, h => by
    have h0 := h 0 y d rfl rfl
    have h1 := bulk_sum sz ls l (by simpa using hl) fun i y' d' hy hd => h (i + 1) y' d' hy hd
    simp only [Rows.uptoBulkAll, List.map_cons, List.sum_cons]; omega
section
variable {H : Type} {enc : TypeId × Value → H} {W : World} {base : Nat} {spare : Nat → Bool} {held : Bool}
theorem bulk_hb (fuel : Nat) (cs : List Value) (x : DataW H × List MemPlace) (h : DataW.trod enc Tryz.prog W base spare held fuel 26 cs = some x) : ∃ v l, cs = [v] ∧ HB (fun _ => True) W v l ∧ szE l ≤ Rows.uptoBulk x.1 := by
  rcases open_ints Tryz.underlying26 Tryz.underlying5 (by kernel_rfl) h with ⟨hcs, hx⟩ | ⟨y, len, c, zs, hcs, _, hl, hm, hz, hx, hcell, hwz⟩
  · exact ⟨_, [], hcs, HB.nil _ W, bulk_pos _⟩
  · have hzl : len ≤ zs.length := by
      have hz2 : zs.length = if spare y.block = true then c else len := by simpa using hz
      rw [hz2]
      split
      · exact hl
      · exact Nat.le_refl _
    have hlen : ((zs.take len).map fun z => UInt8.ofNat z.toNat).length = len := by rw [List.length_map, List.length_take]; omega
    unfold maxLen at hm
    refine ⟨_, (zs.take len).map fun z => UInt8.ofNat z.toNat, hcs, ⟨some y, c, by rw [hlen], by rw [hlen]; exact hl, by omega, ?_⟩, ?_⟩
    · intro i u hu
      rw [List.getElem?_map] at hu
      obtain ⟨z, hz1, rfl⟩ := Option.map_eq_some_iff.1 hu
      have hi : i < (zs.take len).length := (List.getElem?_eq_some_iff.1 hz1).1
      rw [List.length_take] at hi
      rw [List.getElem?_take_of_lt (by omega)] at hz1
      have hw := hwz z (List.mem_of_getElem? hz1)
      simp only [Lit.wf, IntKind.min, IntKind.max, IntKind.signed, IntKind.bits, Bool.and_eq_true, decide_eq_true_eq, Bool.false_eq_true, if_false] at hw
      have e : ((UInt8.ofNat z.toNat).toNat : Int) = z := by rw [UInt8.toNat_ofNat']; omega
      have hc := hcell i (by omega)
      rw [List.getD_eq_getElem?_getD, hz1] at hc
      obtain ⟨B, o, rfl⟩ := spot_zero (hcell 0 (by omega))
      refine ⟨B, o, rfl, trivial, ?_⟩
      rw [addp] at hc
      rw [hc, eb, e]
      rfl
    · have h1 := bulk_len (H := H) (lits .u8 (zs.take len))
      have h2 : (lits (H := H) .u8 (zs.take len)).length = len := by simp [lits]; omega
      rw [hx]
      simp only [szE, Rows.uptoBulk, hlen]
      omega
/-- A list, where its items are opened. -/
theorem bulk_list {α : Type} {E : El α} {T : TypeId} (sz : α → Nat) (hK : 0 < E.K) (hu : Tryz.prog.underlying T = some (.slice E.ty)) (hcells : Tryz.prog.cellsOf E.ty = E.K)
    (el : ∀ (fuel : Nat) (cs : List Value) (x : DataW H × List MemPlace), DataW.trod enc Tryz.prog W base spare held fuel E.ty cs = some x → ∃ y, E.I (fun _ => True) W cs y ∧ sz y ≤ Rows.uptoBulk x.1)
    (fuel : Nat) (cs : List Value) (x : DataW H × List MemPlace) (h : DataW.trod enc Tryz.prog W base spare held fuel T cs = some x) : ∃ v ls, cs = [v] ∧ Sl E (fun _ => True) W v ls ∧ (ls.map sz).sum + 1 ≤ Rows.uptoBulk x.1 := by
  rcases DataW.trod_slice hu h with ⟨h4, _⟩ | ⟨a, len, cap, elems, rest, q, hq, h4, hX, _, hl, hm, he, hx, _, _⟩
  · exact ⟨_, [], h4, Sl.nil _ _, bulk_pos _⟩
  · unfold maxLen at hm
    have each : ∀ i, i < len → ∃ y : α, ∃ B o, ∃ cs : List Value, a = ⟨B, o, none⟩ ∧ (∀ r z, cs[r]? = some z → W.cell? ⟨B, o + i * E.K + r, none⟩ = some z) ∧ E.I (fun _ => True) W cs y ∧ ∀ d, elems[i]? = some d → sz y ≤ Rows.uptoBulk d.1 := by
      intro i hi
      have key := hx i hi
      have hei : elems[i]? = some elems[i] := List.getElem?_eq_getElem (by omega)
      rw [hei] at key
      obtain ⟨cs', k1, k2⟩ := Option.bind_eq_some_iff.1 key
      obtain ⟨y, hy, hsz⟩ := el q cs' _ k2
      rw [hcells] at k1
      obtain ⟨_, hl', hcell⟩ := World.cells?_some k1
      have hcl := E.len hy
      have hsp : ∃ B o, a = ⟨B, o, none⟩ := by
        have key0 := hx 0 (by omega)
        rw [List.getElem?_eq_getElem (by omega)] at key0
        obtain ⟨cs0, k10, k20⟩ := Option.bind_eq_some_iff.1 key0
        obtain ⟨y0, hy0, _⟩ := el q cs0 _ k20
        rw [hcells] at k10
        obtain ⟨_, _, hcell0⟩ := World.cells?_some k10
        have hcl0 := E.len hy0
        have p0 := hcell0 0 (by omega)
        rw [add_add, Nat.zero_mul, Nat.add_zero] at p0
        have hz0 : cs0[0]? = some cs0[0] := List.getElem?_eq_getElem (by omega)
        rw [hz0] at p0
        exact spot_zero p0
      obtain ⟨B, o, rfl⟩ := hsp
      refine ⟨y, B, o, cs', rfl, fun r z hz => ?_, hy, fun d hd => ?_⟩
      · have hr : r < E.K := by have := (List.getElem?_eq_some_iff.1 hz).1; omega
        have pr := hcell r (by omega)
        rw [addp, addp] at pr
        rw [pr, hz]
      · rw [hei] at hd
        cases hd
        exact hsz
    rcases Nat.eq_zero_or_pos len with h0 | h0
    · subst h0
      exact ⟨_, [], h4, ⟨some a, cap, rfl, Nat.zero_le _, by omega, Ls.nil _ _ _⟩, bulk_pos _⟩
    have inh : Inhabited α := ⟨(each 0 h0).choose⟩
    obtain ⟨F, hF⟩ := choose_lt each
    refine ⟨_, (List.range len).map F, h4, ⟨some a, cap, by simp, by simpa using hl, by omega, fun i p hp => ?_⟩, ?_⟩
    · have hi : i < len := by have := (List.getElem?_eq_some_iff.1 hp).1; simpa using this
      rw [List.getElem?_map, List.getElem?_range hi] at hp
      cases hp
      obtain ⟨B, o, cs, ha, hc, hI, _⟩ := hF i hi
      exact ⟨B, o, cs, by rw [ha], fun _ => trivial, hc, hI⟩
    · have hs := bulk_sum sz ((List.range len).map F) (elems.map (·.1)) (by simp [he]) fun i y d hy hd => by
        have hi : i < len := by have := (List.getElem?_eq_some_iff.1 hy).1; simpa using this
        rw [List.getElem?_map, List.getElem?_range hi] at hy
        cases hy
        rw [List.getElem?_map] at hd
        obtain ⟨d', hd', rfl⟩ := Option.map_eq_some_iff.1 hd
        obtain ⟨_, _, _, _, _, _, hsz⟩ := hF i hi
        exact hsz d' hd'
      rw [hX]
      simp only [Rows.uptoBulk]
      omega
theorem bulk_ev (fuel : Nat) (cs : List Value) (x : DataW H × List MemPlace) (h : DataW.trod enc Tryz.prog W base spare held fuel 26 cs = some x) : ∃ y, evE.I (fun _ => True) W cs y ∧ szE y ≤ Rows.uptoBulk x.1 := by
  obtain ⟨v, l, hc, hv, hs⟩ := bulk_hb fuel cs x h
  exact ⟨l, ⟨v, hc, hv⟩, hs⟩
theorem bulk_evl (fuel : Nat) (cs : List Value) (x : DataW H × List MemPlace) (h : DataW.trod enc Tryz.prog W base spare held fuel 37 cs = some x) : ∃ v ls, cs = [v] ∧ Sl evE (fun _ => True) W v ls ∧ szL ls ≤ Rows.uptoBulk x.1 :=
  bulk_list (E := evE) szE (by decide) Tryz.underlying37 cells22 bulk_ev fuel cs x h
set_option maxRecDepth 100000 in
theorem bulk_rw (fuel : Nat) (cs : List Value) (x : DataW H × List MemPlace) (h : DataW.trod enc Tryz.prog W base spare held fuel 47 cs = some x) : ∃ y, rowE.I (fun _ => True) W cs y ∧ szRw y ≤ Rows.uptoBulk x.1 := by
  obtain ⟨xs, k, hk, hxy, hlen, hxl, hf⟩ := DataW.trod_struct Tryz.underlying47 h
  rw [cells37] at hlen
  obtain ⟨c0, c1, c2, rfl⟩ := list3 hlen
  obtain ⟨y0, y1, y2, rfl⟩ := list3 (l := xs) hxl
  have g0 := hf 0 _ rfl
  have g1 := hf 1 _ rfl
  have g2 := hf 2 _ rfl
  clear hf hxl hlen h
  simp only [List.getElem?_cons_zero, List.getElem?_cons_succ] at g0 g1 g2
  obtain ⟨s0, e0, _, _⟩ := DataW.trod_string Tryz.underlying9 g0
  obtain ⟨n1, e1, _, _⟩ := DataW.trod_int Tryz.underlying3 g1
  obtain ⟨v2, l, e2, hv, hs⟩ := bulk_hb _ _ _ g2
  cases e0; cases e1; cases e2
  refine ⟨⟨s0, n1, l⟩, ⟨_, rfl, hv⟩, ?_⟩
  rw [hxy]
  simp only [szE, szRw, List.map_cons, List.map_nil, Rows.uptoBulk, Rows.uptoBulkAll] at hs ⊢
  omega
set_option maxRecDepth 100000 in
theorem bulk_bn (fuel : Nat) (cs : List Value) (x : DataW H × List MemPlace) (h : DataW.trod enc Tryz.prog W base spare held fuel 39 cs = some x) : ∃ y, brE.I (fun _ => True) W cs y ∧ szBn y ≤ Rows.uptoBulk x.1 := by
  obtain ⟨xs, k, hk, hxy, hlen, hxl, hf⟩ := DataW.trod_struct Tryz.underlying39 h
  rw [cells56] at hlen
  obtain ⟨c0, c1, rfl⟩ := list2 hlen
  obtain ⟨y0, y1, rfl⟩ := list2 (l := xs) hxl
  have g0 := hf 0 _ rfl
  have g1 := hf 1 _ rfl
  clear hf hxl hlen h
  simp only [List.getElem?_cons_zero, List.getElem?_cons_succ] at g0 g1
  obtain ⟨s0, e0, _, _⟩ := DataW.trod_string Tryz.underlying9 g0
  obtain ⟨v1, l, e1, hv, hs⟩ := bulk_evl _ _ _ g1
  cases e0; cases e1
  refine ⟨⟨s0, l⟩, ⟨_, rfl, hv⟩, ?_⟩
  have := bulk_pos y0.1
  rw [hxy]
  simp only [szBn, List.map_cons, List.map_nil, Rows.uptoBulk, Rows.uptoBulkAll]
  omega
set_option maxRecDepth 100000 in
/-- An argument that is rows. -/
theorem bulk_db (fuel : Nat) (cs : List Value) (x : DataW H × List MemPlace) (h : DataW.trod enc Tryz.prog W base spare held fuel 25 cs = some x) : ∃ u b r, cs = [u, b] ∧ IsR (fun _ => True) W (.agg #[u, b]) r ∧ szDb r ≤ Rows.uptoBulk x.1 := by
  obtain ⟨xs, k, hk, hxy, hlen, hxl, hf⟩ := DataW.trod_struct Tryz.underlying25 h
  rw [cellsD25] at hlen
  obtain ⟨c0, c1, rfl⟩ := list2 hlen
  obtain ⟨y0, y1, rfl⟩ := list2 (l := xs) hxl
  have g0 := hf 0 _ rfl
  have g1 := hf 1 _ rfl
  clear hf hxl hlen h
  simp only [List.getElem?_cons_zero, List.getElem?_cons_succ] at g0 g1
  obtain ⟨u, rs, e0, hu, s0⟩ := bulk_list (E := rowE) szRw (by decide) Tryz.underlying22 cells37 bulk_rw _ _ _ g0
  obtain ⟨b, bs, e1, hb, s1⟩ := bulk_list (E := brE) szBn (by decide) Tryz.underlying23 cells56 bulk_bn _ _ _ g1
  cases e0; cases e1
  refine ⟨_, _, ⟨rs, bs⟩, rfl, ⟨_, _, rfl, hu, hb⟩, ?_⟩
  rw [hxy]
  simp only [szDb, List.map_cons, List.map_nil, Rows.uptoBulk, Rows.uptoBulkAll]
  omega
set_option maxRecDepth 100000 in
theorem bulk_wt (fuel : Nat) (cs : List Value) (x : DataW H × List MemPlace) (h : DataW.trod enc Tryz.prog W base spare held fuel 44 cs = some x) : ∃ t, wtE.I (fun _ => True) W cs t ∧ szWt t ≤ Rows.uptoBulk x.1 := by
  obtain ⟨xs, k, hk, hxy, hlen, hxl, hf⟩ := DataW.trod_struct Tryz.underlying44 h
  rw [cells42] at hlen
  obtain ⟨c0, c1, c2, c3, c4, rfl⟩ := list5 hlen
  obtain ⟨y0, y1, y2, y3, y4, rfl⟩ := list5 (l := xs) hxl
  have g0 := hf 0 _ rfl
  have g1 := hf 1 _ rfl
  have g2 := hf 2 _ rfl
  have g3 := hf 3 _ rfl
  have g4 := hf 4 _ rfl
  clear hf hxl hlen h
  simp only [List.getElem?_cons_zero, List.getElem?_cons_succ] at g0 g1 g2 g3 g4
  obtain ⟨s0, e0, _, _⟩ := DataW.trod_string Tryz.underlying9 g0
  obtain ⟨s1, e1, _, _⟩ := DataW.trod_string Tryz.underlying9 g1
  obtain ⟨n2, e2, _, _⟩ := DataW.trod_int Tryz.underlying3 g2
  obtain ⟨n3, e3, _, _⟩ := DataW.trod_int Tryz.underlying3 g3
  obtain ⟨v4, ls, e4, hl, hs⟩ := bulk_evl _ _ _ g4
  cases e0; cases e1; cases e2; cases e3; cases e4
  refine ⟨⟨s0, s1, n2, n3, ls⟩, ⟨_, rfl, hl⟩, ?_⟩
  have := bulk_pos y0.1
  rw [hxy]
  simp only [szWt, List.map_cons, List.map_nil, Rows.uptoBulk, Rows.uptoBulkAll]
  omega
set_option maxRecDepth 100000 in
/-- An argument that is a batch. -/
theorem bulk_btS (fuel : Nat) (cs : List Value) (x : DataW H × List MemPlace) (h : DataW.trod enc Tryz.prog W base spare held fuel 42 cs = some x) : ∃ c0 c1 c2 c3 b, cs = [c0, c1, c2, c3] ∧ BtS (fun _ => True) W (.agg #[c0, c1, c2, c3]) b ∧ szBt b ≤ Rows.uptoBulk x.1 := by
  obtain ⟨xs, k, hk, hxy, hlen, hxl, hf⟩ := DataW.trod_struct Tryz.underlying42 h
  rw [cells25] at hlen
  obtain ⟨c0, c1, c2, c3, rfl⟩ := list4 hlen
  obtain ⟨y0, y1, y2, y3, rfl⟩ := list4 (l := xs) hxl
  have g0 := hf 0 _ rfl
  have g1 := hf 1 _ rfl
  have g2 := hf 2 _ rfl
  have g3 := hf 3 _ rfl
  clear hf hxl hlen h
  simp only [List.getElem?_cons_zero, List.getElem?_cons_succ] at g0 g1 g2 g3
  obtain ⟨s0, e0, _, _⟩ := DataW.trod_string Tryz.underlying9 g0
  obtain ⟨n1, e1, _, _⟩ := DataW.trod_int Tryz.underlying3 g1
  obtain ⟨vr, row, e2, hr, z2⟩ := bulk_hb _ _ _ g2
  obtain ⟨vw, ws, e3, hw, z3⟩ := bulk_list (E := wtE) szWt (by decide) Tryz.underlying40 cells42 bulk_wt _ _ _ g3
  cases e0; cases e1; cases e2; cases e3
  refine ⟨_, _, _, _, ⟨s0, n1, row, ws⟩, rfl, ⟨_, _, rfl, hr, hw⟩, ?_⟩
  rw [hxy]
  simp only [szE, szBt, List.map_cons, List.map_nil, Rows.uptoBulk, Rows.uptoBulkAll] at z2 ⊢
  omega
end
/-- What is small. -/
theorem sum_mem {α : Type} (f : α → Nat) {l : List α} {y : α} (h : y ∈ l) : f y ≤ (l.map f).sum := by
  induction l with
  | nil => cases h
  | cons x r ih =>
    simp only [List.map_cons, List.sum_cons]
    rcases List.mem_cons.1 h with rfl | h
    · omega
    · have := ih h; omega
theorem sum_len {α : Type} (f : α → Nat) (l : List α) (h : ∀ y ∈ l, 1 ≤ f y) : l.length ≤ (l.map f).sum := by
  induction l with
  | nil => simp
  | cons x r ih =>
    have h1 := h x (List.mem_cons_self ..)
    have h2 := ih fun y hy => h y (List.mem_cons_of_mem _ hy)
    simp only [List.map_cons, List.sum_cons, List.length_cons]; omega
theorem szL_small {l : List (List UInt8)} {n : Nat} (h : szL l ≤ n) : l.length ≤ n ∧ ∀ e ∈ l, e.length ≤ n := by
  unfold szL at h
  have h1 := sum_len szE l fun y _ => by unfold szE; omega
  refine ⟨by omega, fun e he => ?_⟩
  have h2 := sum_mem szE he
  have h3 : szE e = e.length + 1 := rfl
  omega
/-- How many few counts. -/
def evN (r : Db) : Nat := (r.brs.map fun x => x.ev.length).sum
def wsN (b : Bt) : Nat := (b.ws.map fun t => 1 + t.ev.length).sum
theorem sum_le {α : Type} (f g : α → Nat) (l : List α) (h : ∀ y ∈ l, f y ≤ g y) : (l.map f).sum ≤ (l.map g).sum := by
  induction l with
  | nil => simp
  | cons x r ih =>
    have h1 := h x (List.mem_cons_self ..)
    have h2 := ih fun y hy => h y (List.mem_cons_of_mem _ hy)
    simp only [List.map_cons, List.sum_cons]; omega
theorem evN_sz (r : Db) : r.rows.length + r.brs.length + evN r ≤ 2 * szDb r := by
  have h1 := sum_len szRw r.rows fun y _ => by unfold szRw; omega
  have h2 := sum_len szBn r.brs fun y _ => by unfold szBn; omega
  have h3 := sum_le (fun x : Bn => x.ev.length) szBn r.brs fun y _ => by
    have := (szL_small (Nat.le_refl (szL y.ev))).1
    unfold szBn; omega
  unfold evN szDb; omega
theorem wsN_sz (b : Bt) : wsN b ≤ szBt b := by
  have h3 := sum_le (fun t : Wt => 1 + t.ev.length) szWt b.ws fun y _ => by
    have := (szL_small (Nat.le_refl (szL y.ev))).1
    unfold szWt; omega
  unfold wsN szBt; omega
theorem smD_of {r : Db} {n : Nat} (h : szDb r ≤ n) (hn : n ≤ 1048576) (hf : r.rows.length + r.brs.length + evN r ≤ 400) : SmD r := by
  unfold szDb at h
  refine ⟨by omega, fun e he => ?_, by omega, fun x hx => ⟨?_, fun e he => ?_⟩⟩
  · have h1 := sum_mem szRw he
    unfold szRw at h1
    unfold szRw at h
    omega
  · have h1 := sum_mem (fun x : Bn => x.ev.length) hx
    unfold evN at hf
    omega
  · have h1 := sum_mem szBn hx
    have h2 := (szL_small (Nat.le_refl (szL x.ev))).2 e he
    have h3 : szBn x = szL x.ev + 1 := rfl
    omega
theorem row_small {b : Bt} {n : Nat} (h : szBt b ≤ n) : b.row.length ≤ n := by unfold szBt at h; omega
end Go.Proofs.YtkaaddahegkmgaaGreat
namespace Go.Proofs.YtkaaddahegkmgaaGreat
open Go.ChangeShapes Go.WideShapes Go.ChangeAt Go.RowKit
theorem pt_fst {α : Type} {key : α → ByteArray} {x : α} {xs ys : List α} (h : Pt key x xs ys) : ∃ i, Fst key ys (key x) i x := by
  rcases h with ⟨i, y, ⟨h1, h2, h3⟩, rfl⟩ | ⟨hno, i, hi, rfl⟩
  · have hl := (List.getElem?_eq_some_iff.1 h1).1
    refine ⟨i, List.getElem?_set_self hl, rfl, fun i' y' hlt hy => ?_⟩
    rw [List.getElem?_set_ne (by omega)] at hy
    exact h3 i' y' hlt hy
  · have hl : (xs.take i).length = i := by rw [List.length_take]; omega
    refine ⟨i, ?_, rfl, fun i' y' hlt hy => ?_⟩
    · rw [List.getElem?_append_right (by omega), hl, Nat.sub_self]
      rfl
    · rw [List.getElem?_append_left (by omega), List.getElem?_take_of_lt hlt] at hy
      exact hno y' (List.mem_of_getElem? hy)
theorem pt_ver {x : Rw} {xs ys : List Rw} (h : Pt (fun x : Rw => x.key) x xs ys) : VerIs ys x.key x.ver := by
  obtain ⟨i, hi⟩ := pt_fst h
  exact .inl ⟨i, x, hi, rfl⟩
/-- What stays of another key. -/
theorem pt_other {α : Type} {key : α → ByteArray} {x z : α} {xs ys : List α} {k : ByteArray} (h : Pt key x xs ys) (hk : k ≠ key x) {i : Nat} (hz : Fst key xs k i z) : ∃ j, Fst key ys k j z := by
  obtain ⟨z1, z2, z3⟩ := hz
  have hzl := (List.getElem?_eq_some_iff.1 z1).1
  rcases h with ⟨i0, y, ⟨h1, h2, h3⟩, rfl⟩ | ⟨hno, i0, hi0, rfl⟩
  · have hl := (List.getElem?_eq_some_iff.1 h1).1
    have hne : i0 ≠ i := fun e => by
      subst e
      rw [h1] at z1
      cases z1
      exact hk (z2.symm.trans h2)
    refine ⟨i, by rw [List.getElem?_set_ne hne]; exact z1, z2, fun i' y' hlt hy => ?_⟩
    by_cases he : i0 = i'
    · subst he
      rw [List.getElem?_set_self hl] at hy
      cases hy
      exact fun e => hk e.symm
    · rw [List.getElem?_set_ne he] at hy
      exact z3 i' y' hlt hy
  · have hl : (xs.take i0).length = i0 := by rw [List.length_take]; omega
    by_cases hlt : i < i0
    · refine ⟨i, by rw [List.getElem?_append_left (by omega), List.getElem?_take_of_lt hlt]; exact z1, z2, fun i' y' hlt' hy => ?_⟩
      rw [List.getElem?_append_left (by omega), List.getElem?_take_of_lt (by omega)] at hy
      exact z3 i' y' hlt' hy
    · refine ⟨i + 1, ?_, z2, fun i' y' hlt' hy => ?_⟩
      · rw [List.getElem?_append_right (by omega), hl, show i + 1 - i0 = (i - i0) + 1 by omega, List.getElem?_cons_succ, List.getElem?_drop, show i0 + (i - i0) = i by omega]
        exact z1
      · by_cases h1 : i' < i0
        · rw [List.getElem?_append_left (by omega), List.getElem?_take_of_lt h1] at hy
          exact z3 i' y' (by omega) hy
        · rw [List.getElem?_append_right (by omega), hl] at hy
          by_cases h2 : i' = i0
          · subst h2
            rw [Nat.sub_self] at hy
            cases hy
            exact fun e => hk e.symm
          · rw [show i' - i0 = (i' - i0 - 1) + 1 by omega, List.getElem?_cons_succ, List.getElem?_drop, show i0 + (i' - i0 - 1) = i' - 1 by omega] at hy
            exact z3 (i' - 1) y' (by omega) hy
end Go.Proofs.YtkaaddahegkmgaaGreat
namespace Go.Proofs.YtkaaddahegkmgaaGreat
open Go.ChangeShapes Go.WideShapes Go.ChangeAt Go.RowKit
/-- How many writes and events a list of batches has. -/
def wsAll (bs : List Bt) : Nat := (bs.map wsN).sum
/-- What few counts. -/
def fewN (r : Db) (bs : List Bt) : Nat := r.rows.length + r.brs.length + evN r + wsAll bs
/-- A batch in a list. -/
def btE : El Bt where
  K := 4
  ty := 42
  I := fun P w cs b => ∃ vr vw, cs = [.string b.key, .int .i64 b.ex, vr, vw] ∧ HB P w vr b.row ∧ Sl wtE P w vw b.ws
  len := fun ⟨_, _, h, _⟩ => by rw [h]; rfl
  one := fun ⟨vr, vw, h, h1, h2⟩ z hz => by
    rw [h] at hz
    simp only [List.mem_cons, List.not_mem_nil, or_false] at hz
    rcases hz with rfl | rfl | rfl | rfl
    · rfl
    · rfl
    · exact h1.one
    · exact h2.one
  keep := fun ⟨vr, vw, h, h1, h2⟩ hk => ⟨vr, vw, h, h1.keep hk, h2.keep hk⟩
theorem Ls.bt {P : Nat → Prop} {w : World} {a : Option Addr} {xs : List Bt} (h : Ls btE P w a xs) (i : Nat) (x) (hx : xs[i]? = some x) : ∃ B o vr vw, a = some ⟨B, o, none⟩ ∧ P B ∧ w.cell? ⟨B, o + i * 4, none⟩ = some (.string x.key) ∧ w.cell? ⟨B, o + i * 4 + 1, none⟩ = some (.int .i64 x.ex) ∧ w.cell? ⟨B, o + i * 4 + 2, none⟩ = some vr ∧ w.cell? ⟨B, o + i * 4 + 3, none⟩ = some vw ∧ HB P w vr x.row ∧ Sl wtE P w vw x.ws := by
  obtain ⟨B, o, cs, ha, hB, hc, vr, vw, rfl, h1, h2⟩ := h i x hx
  exact ⟨B, o, vr, vw, ha, hB (by decide), hc 0 _ rfl, hc 1 _ rfl, hc 2 _ rfl, hc 3 _ rfl, h1, h2⟩
/-- The sum of the first j. -/
def sumT {α : Type} (f : α → Nat) (l : List α) (j : Nat) : Nat := ((l.take j).map f).sum
theorem sumT_zero {α : Type} (f : α → Nat) (l : List α) : sumT f l 0 = 0 := by simp [sumT]
theorem sumT_all {α : Type} (f : α → Nat) (l : List α) : sumT f l l.length = (l.map f).sum := by simp [sumT]
theorem sumT_succ {α : Type} (f : α → Nat) {l : List α} {j : Nat} {x : α} (h : l[j]? = some x) : sumT f l (j + 1) = sumT f l j + f x := by
  unfold sumT
  rw [List.take_add_one, h]
  simp
theorem sumT_le {α : Type} (f : α → Nat) (l : List α) (j : Nat) : sumT f l j ≤ (l.map f).sum := by
  have h : ((l.take j ++ l.drop j).map f).sum = (l.map f).sum := by rw [List.take_append_drop]
  rw [List.map_append, List.sum_append_nat] at h
  unfold sumT
  omega
/-- How many events a branch, a write has. -/
def evLen (x : Bn) : Nat := x.ev.length
def wtLen (t : Wt) : Nat := 1 + t.ev.length
theorem evN_eq (r : Db) : evN r = (r.brs.map evLen).sum := rfl
theorem wsN_eq (b : Bt) : wsN b = (b.ws.map wtLen).sum := rfl
theorem wrN {a b c : Nat} (hc : c = a + b) (h : c ≤ 9223372036854775807) : wrap64 ((a : Int) + (b : Int)) = (c : Int) := by
  unfold wrap64; omega
theorem wrOne {b c : Nat} (hc : c = 1 + b) (h : c ≤ 9223372036854775807) : wrap64 (1 + (b : Int)) = (c : Int) := by
  unfold wrap64; omega
set_option maxHeartbeats 8000000 in
set_option maxRecDepth 100000 in
theorem few_calls (v : Value) (r : Db) (la : Option Addr) (lc M : Nat) (bs : List Bt) (hM : bs.length = M) (w : World) (hv : IsR (fun _ => True) w v r) (hb : Ls btE (fun _ => True) w la bs) (hn : fewN r bs ≤ 100000000) (hm : M ≤ 1000) :
    Calls Tryz.prog 4 #[v, .slice la M lc] w fun e w' => e = .returned (.bool (decide (fewN r bs ≤ 400))) ∧ Below w.heap.size w w' := by
  obtain ⟨pu, cu, pb, cb, rfl, hu, hbr⟩ := hv.shape
  obtain ⟨p0, c0, he0, hlc, hcm, hls⟩ := hbr
  cases he0
  have HI : Hid (Ls brE (fun _ => True) w pb r.brs) := hls
  have HJ : Hid (Ls btE (fun _ => True) w la bs) := hb
  have HN : Hid (fewN r bs ≤ 100000000 ∧ bs.length = M ∧ M ≤ 1000) := ⟨hn, hM, hm⟩
  obtain ⟨R, hR⟩ : ∃ R, R = r.rows.length := ⟨_, rfl⟩
  obtain ⟨K, hK⟩ : ∃ K, K = r.brs.length := ⟨_, rfl⟩
  have HRK : Hid (R = r.rows.length ∧ K = r.brs.length) := ⟨hR, hK⟩
  have HT : Hid (R + K + (evN r + wsAll bs) ≤ 100000000) := by unfold fewN at hn; show _ ≤ _; omega
  rw [← hR, ← hK]
  have a0 := cell_new w #[.slice pu R cu, .slice pb K cb] 25 0
  have a1 := cell_new w #[.slice pu R cu, .slice pb K cb] 25 1
  have hb0 := bel1 w (.cells #[.slice pu R cu, .slice pb K cb] 25)
  have HB0 : Hid (Below w.heap.size w (w.alloc (.cells #[.slice pu R cu, .slice pb K cb] 25))) := hb0
  obtain ⟨Q, hQ⟩ : ∃ Q, Q = R + K := ⟨_, rfl⟩
  have HQ : Hid (Q = R + K) := hQ
  have hs0 : wrap64 ((R : Int) + (K : Int)) = (Q : Int) := wrN hQ (by have := HT.out; omega)
  clear hv hu hls hlc hcm hb hn hM hm hR hK hb0 hQ
  go_enter Tryz.func4, Tryz.ntmps4
  go_wp2_with (simp only [hs0])
  clear a0 a1 hs0
  go_loopw [5, 7, 22] (fun n _ i wr => ∃ j T : Nat, j ≤ K ∧ i = .int .i64 (j : Int) ∧ n = .int .i64 (T : Int) ∧ Hid (T = Q + sumT evLen r.brs j) ∧ Hid (Below w.heap.size w wr)) (fun _ _ i _ => K - (intOf i).toNat)
  case atStart => exact ⟨0, Q, Nat.zero_le _, rfl, rfl, by show _ = _; rw [sumT_zero]; rfl, HB0⟩
  case round =>
    obtain ⟨j, T, hj, rfl, rfl, HTT, HB⟩ := hrel
    by_cases hlt : j < K
    · have hjl : (j : Int) < (K : Int) := by omega
      obtain ⟨x, hx⟩ : ∃ x, r.brs[j]? = some x := ⟨_, List.getElem?_eq_getElem (by have := HRK.out.2; omega)⟩
      obtain ⟨B, o, e, rfl, _, g0, g1, hve⟩ := HI.out.br j x hx
      obtain ⟨pe, ce, rfl, _⟩ := hve.shape
      have k0 := cell_below g0 HB.out
      have k1 := cell_below g1 HB.out
      have HW : Hid (wrap64 ((j : Int) + 1) = ((j + 1 : Nat) : Int)) := wr1 hlt (by have := HT.out; omega)
      obtain ⟨T2, hT2⟩ : ∃ T2, T2 = T + x.ev.length := ⟨_, rfl⟩
      have H2 : Hid (T2 = Q + sumT evLen r.brs (j + 1)) := by
        have h1 := sumT_succ evLen hx
        have h2 := HTT.out
        have h3 : evLen x = x.ev.length := rfl
        show _ = _
        omega
      have hadd : wrap64 ((T : Int) + (x.ev.length : Int)) = (T2 : Int) := wrN hT2 (by
        have h1 := sumT_le evLen r.brs (j + 1)
        have h2 := HT.out; have h3 := H2.out; have h4 := HQ.out
        rw [evN_eq] at h2
        omega)
      have HBB : Hid (Below w.heap.size w (wr.alloc (.cells #[.string x.key, .slice pe x.ev.length ce] 39))) := HB.out.trans ((bel1 wr _).mono HB.out.size)
      have n1 := cell_new wr #[.string x.key, .slice pe x.ev.length ce] 39 1
      clear hx g0 g1 hve hj hT2
      go_wp2_with (simp only [hadd])
      exact ⟨⟨j + 1, T2, hlt, by rw [HW.out], rfl, H2, HBB⟩, meas hlt HW.out⟩
    · obtain rfl : j = K := by omega
      have HS : Hid (T = R + j + evN r) := by
        have h1 := HTT.out; have h2 := HQ.out; have h3 := sumT_all evLen r.brs; have h4 := HRK.out.2; have h5 := evN_eq r
        rw [← h4] at h3
        show _ = _
        omega
      go_wp2_with fail
      go_loopw [5, 9, 11, 34] (fun n _ _ i wr => ∃ j S : Nat, j ≤ M ∧ i = .int .i64 (j : Int) ∧ n = .int .i64 (S : Int) ∧ Hid (S = T + sumT wsN bs j) ∧ Hid (Below w.heap.size w wr)) (fun _ _ _ i _ => M - (intOf i).toNat)
      case atStart => exact ⟨0, T, Nat.zero_le _, rfl, rfl, by show _ = _; rw [sumT_zero]; rfl, HB⟩
      case round =>
        obtain ⟨k, S, hk, rfl, rfl, HSS, HB⟩ := hrel
        by_cases hlt : k < M
        · have hjl : (k : Int) < (M : Int) := by omega
          obtain ⟨b, hb⟩ : ∃ b, bs[k]? = some b := ⟨_, List.getElem?_eq_getElem (by have := HN.out; omega)⟩
          obtain ⟨B, o, vr, vw, rfl, _, g0, g1, g2, g3, hvr, hvw⟩ := HJ.out.bt k b hb
          obtain ⟨pr, cr, rfl, _⟩ := hvr.shape
          obtain ⟨pw, cw, he, hwc, hwm, hws⟩ := hvw
          subst he
          have k0 := cell_below g0 HB.out
          have k1 := cell_below g1 HB.out
          have k2 := cell_below g2 HB.out
          have k3 := cell_below g3 HB.out
          have HW : Hid (wrap64 ((k : Int) + 1) = ((k + 1 : Nat) : Int)) := wr1 hlt (by have := HN.out; omega)
          have HSM : Hid (sumT wsN bs (k + 1) = sumT wsN bs k + wsN b) := sumT_succ wsN hb
          have HLE : Hid (sumT wsN bs (k + 1) ≤ wsAll bs) := sumT_le wsN bs (k + 1)
          have HBB : Hid (Below w.heap.size w (wr.alloc (.cells #[.string b.key, .int .i64 b.ex, .slice pr b.row.length cr, .slice pw b.ws.length cw] 42))) := HB.out.trans ((bel1 wr _).mono HB.out.size)
          have n1 := cell_new wr #[.string b.key, .int .i64 b.ex, .slice pr b.row.length cr, .slice pw b.ws.length cw] 42 3
          have HWS : Hid (Ls wtE (fun _ => True) w pw b.ws) := hws
          have HWM : Hid (b.ws.length ≤ 9223372036854775807) := Nat.le_trans hwc hwm
          obtain ⟨L, hL⟩ : ∃ L, L = b.ws.length := ⟨_, rfl⟩
          rw [← hL] at k3 n1 HBB
          have HL : Hid (L = b.ws.length) := hL
          clear hb g0 g1 g2 g3 hvr hws hwc hwm hk hL
          go_wp2_with fail
          go_loopw [5, 11, 41] (fun n _ i wr => ∃ m U : Nat, m ≤ L ∧ i = .int .i64 (m : Int) ∧ n = .int .i64 (U : Int) ∧ Hid (U = S + sumT wtLen b.ws m) ∧ Hid (Below w.heap.size w wr)) (fun _ _ i _ => L - (intOf i).toNat)
          case atStart => exact ⟨0, S, Nat.zero_le _, rfl, rfl, by show _ = _; rw [sumT_zero]; rfl, HBB⟩
          case round =>
            obtain ⟨m, U, hm, rfl, rfl, HUU, HB⟩ := hrel
            by_cases hlt2 : m < L
            · have hml : (m : Int) < (L : Int) := by omega
              obtain ⟨t, ht⟩ : ∃ t, b.ws[m]? = some t := ⟨_, List.getElem?_eq_getElem (by have := HL.out; omega)⟩
              obtain ⟨B', o', ve, rfl, _, g0, g1, g2, g3, g4, hve⟩ := HWS.out.wt m t ht
              obtain ⟨pe, ce, rfl, _⟩ := hve.shape
              have e0 := cell_below g0 HB.out
              have e1 := cell_below g1 HB.out
              have e2 := cell_below g2 HB.out
              have e3 := cell_below g3 HB.out
              have e4 := cell_below g4 HB.out
              have HW2 : Hid (wrap64 ((m : Int) + 1) = ((m + 1 : Nat) : Int)) := wr1 hlt2 (by have := HWM.out; have := HL.out; omega)
              obtain ⟨L1, hL1⟩ : ∃ L1, L1 = 1 + t.ev.length := ⟨_, rfl⟩
              obtain ⟨U2, hU2⟩ : ∃ U2, U2 = U + L1 := ⟨_, rfl⟩
              have H2 : Hid (U2 = S + sumT wtLen b.ws (m + 1)) := by
                have h1 := sumT_succ wtLen ht
                have h2 := HUU.out
                have h3 : wtLen t = 1 + t.ev.length := rfl
                show _ = _
                omega
              have hbig : U2 ≤ 100000000 := by
                have h0 := sumT_le wtLen b.ws (m + 1)
                have h1 := HT.out; have h2 := HS.out; have h3 := HSS.out; have h4 := HSM.out; have h5 := HLE.out; have h7 := H2.out
                rw [← wsN_eq] at h0
                omega
              have hone : wrap64 (1 + (t.ev.length : Int)) = (L1 : Int) := wrOne hL1 (Nat.le_trans (Nat.le_trans (hU2 ▸ Nat.le_add_left L1 U) hbig) (by decide))
              have hadd : wrap64 ((U : Int) + (L1 : Int)) = (U2 : Int) := wrN hU2 (Nat.le_trans hbig (by decide))
              have HB2 : Hid (Below w.heap.size w (wr.alloc (.cells #[.string t.br, .string t.fk, .int .i64 t.kp, .int .i64 t.ta, .slice pe t.ev.length ce] 44))) := HB.out.trans ((bel1 wr _).mono HB.out.size)
              have n4 := cell_new wr #[.string t.br, .string t.fk, .int .i64 t.kp, .int .i64 t.ta, .slice pe t.ev.length ce] 44 4
              clear ht g0 g1 g2 g3 g4 hve hm hbig hL1 hU2
              go_wp2_with (simp only [hone, hadd])
              exact ⟨⟨m + 1, U2, hlt2, by rw [HW2.out], rfl, H2, HB2⟩, meas hlt2 HW2.out⟩
            · obtain rfl : m = L := by omega
              go_wp2_with fail
              refine ⟨⟨k + 1, U, hlt, by rw [HW.out], rfl, ?_, HB⟩, meas hlt HW.out⟩
              have h1 := HUU.out; have h2 := HL.out; have h3 := HSS.out; have h4 := HSM.out; have h5 := sumT_all wtLen b.ws; have h6 := wsN_eq b
              rw [← h2] at h5
              show _ = _
              omega
        · obtain rfl : k = M := by omega
          have hfin : S = fewN r bs := by
            have h1 := HS.out; have h2 := HRK.out; have h3 := HSS.out; have h4 := sumT_all wsN bs
            rw [HN.out.2.1] at h4
            unfold fewN wsAll
            omega
          rw [hfin]
          have hdec : (decide (((fewN r bs : Nat) : Int) ≤ 400)) = decide (fewN r bs ≤ 400) := by
            by_cases h : fewN r bs ≤ 400
            · rw [decide_eq_true h, decide_eq_true (by omega)]
            · rw [decide_eq_false h, decide_eq_false (by omega)]
          go_wp2_with (simp only [hdec])
          go_ret
          exact ⟨rfl, HB.out⟩
end Go.Proofs.YtkaaddahegkmgaaGreat
namespace Go.Proofs.YtkaaddahegkmgaaGreat
open Go.ChangeShapes Go.WideShapes Go.ChangeAt Go.RowKit Go.Deep
/-- How great a row is; one whose version no number holds is greater than all that is read. -/
def szRk (x : Rw) : Nat := (if x.ver < 9223372036854775808 then 0 else 2000000) + x.key.data.toList.length + szRw x
def szBk (x : Bn) : Nat := x.key.data.toList.length + szBn x
def szDk (r : Db) : Nat := (r.rows.map szRk).sum + (r.brs.map szBk).sum
section
variable {H : Type} {enc : TypeId × Value → H} {W : World} {base : Nat} {spare : Nat → Bool} {held : Bool}
set_option maxRecDepth 100000 in
theorem bulk_rk (fuel : Nat) (cs : List Value) (x : DataW H × List MemPlace) (h : DataW.trod enc Tryz.prog W base spare held fuel 47 cs = some x) : ∃ y, rowE.I (fun _ => True) W cs y ∧ szRk y ≤ Rows.uptoBulk x.1 := by
  obtain ⟨xs, k, hk, hxy, hlen, hxl, hf⟩ := DataW.trod_struct Tryz.underlying47 h
  rw [cells37] at hlen
  obtain ⟨c0, c1, c2, rfl⟩ := list3 hlen
  obtain ⟨y0, y1, y2, rfl⟩ := list3 (l := xs) hxl
  have g0 := hf 0 _ rfl
  have g1 := hf 1 _ rfl
  have g2 := hf 2 _ rfl
  clear hf hxl hlen h
  simp only [List.getElem?_cons_zero, List.getElem?_cons_succ] at g0 g1 g2
  obtain ⟨s0, e0, x0, _⟩ := DataW.trod_string Tryz.underlying9 g0
  obtain ⟨n1, e1, _, w1⟩ := DataW.trod_int Tryz.underlying3 g1
  obtain ⟨v2, l, e2, hv, hs⟩ := bulk_hb _ _ _ g2
  cases e0; cases e1; cases e2
  refine ⟨⟨s0, n1, l⟩, ⟨_, rfl, hv⟩, ?_⟩
  have hw : n1 < 9223372036854775808 := by
    simp only [Lit.wf, IntKind.min, IntKind.max, IntKind.signed, IntKind.bits, Bool.and_eq_true, decide_eq_true_eq, if_true] at w1
    omega
  rw [hxy]
  subst x0
  simp only [szE, szRk, szRw, if_pos hw, List.map_cons, List.map_nil, Rows.uptoBulk, Rows.uptoBulkAll] at hs ⊢
  omega
set_option maxRecDepth 100000 in
theorem bulk_bk (fuel : Nat) (cs : List Value) (x : DataW H × List MemPlace) (h : DataW.trod enc Tryz.prog W base spare held fuel 39 cs = some x) : ∃ y, brE.I (fun _ => True) W cs y ∧ szBk y ≤ Rows.uptoBulk x.1 := by
  obtain ⟨xs, k, hk, hxy, hlen, hxl, hf⟩ := DataW.trod_struct Tryz.underlying39 h
  rw [cells56] at hlen
  obtain ⟨c0, c1, rfl⟩ := list2 hlen
  obtain ⟨y0, y1, rfl⟩ := list2 (l := xs) hxl
  have g0 := hf 0 _ rfl
  have g1 := hf 1 _ rfl
  clear hf hxl hlen h
  simp only [List.getElem?_cons_zero, List.getElem?_cons_succ] at g0 g1
  obtain ⟨s0, e0, x0, _⟩ := DataW.trod_string Tryz.underlying9 g0
  obtain ⟨v1, l, e1, hv, hs⟩ := bulk_evl _ _ _ g1
  cases e0; cases e1
  refine ⟨⟨s0, l⟩, ⟨_, rfl, hv⟩, ?_⟩
  rw [hxy]
  subst x0
  simp only [szBk, szBn, List.map_cons, List.map_nil, Rows.uptoBulk, Rows.uptoBulkAll]
  omega
set_option maxRecDepth 100000 in
theorem bulk_dk (fuel : Nat) (cs : List Value) (x : DataW H × List MemPlace) (h : DataW.trod enc Tryz.prog W base spare held fuel 25 cs = some x) : ∃ u b r, cs = [u, b] ∧ IsR (fun _ => True) W (.agg #[u, b]) r ∧ szDk r ≤ Rows.uptoBulk x.1 := by
  obtain ⟨xs, k, hk, hxy, hlen, hxl, hf⟩ := DataW.trod_struct Tryz.underlying25 h
  rw [cellsD25] at hlen
  obtain ⟨c0, c1, rfl⟩ := list2 hlen
  obtain ⟨y0, y1, rfl⟩ := list2 (l := xs) hxl
  have g0 := hf 0 _ rfl
  have g1 := hf 1 _ rfl
  clear hf hxl hlen h
  simp only [List.getElem?_cons_zero, List.getElem?_cons_succ] at g0 g1
  obtain ⟨u, rs, e0, hu, s0⟩ := bulk_list (E := rowE) szRk (by decide) Tryz.underlying22 cells37 bulk_rk _ _ _ g0
  obtain ⟨b, bs, e1, hb, s1⟩ := bulk_list (E := brE) szBk (by decide) Tryz.underlying23 cells56 bulk_bk _ _ _ g1
  cases e0; cases e1
  refine ⟨_, _, ⟨rs, bs⟩, rfl, ⟨_, _, rfl, hu, hb⟩, ?_⟩
  rw [hxy]
  simp only [szDk, List.map_cons, List.map_nil, Rows.uptoBulk, Rows.uptoBulkAll]
  omega
end
theorem szDk_db (r : Db) : szDb r ≤ szDk r := by
  have h1 := sum_le szRw szRk r.rows fun y _ => by unfold szRk; omega
  have h2 := sum_le szBn szBk r.brs fun y _ => by unfold szBk; omega
  unfold szDb szDk
  omega
/-- What few lets by, and what is read, may be written. -/
theorem bgD_of {r : Db} {n : Nat} (h : szDk r ≤ n) (hn : n ≤ 1048576) (hf : r.rows.length + r.brs.length + evN r ≤ 400) : BgD r := by
  unfold szDk at h
  refine ⟨by omega, fun x hx => ?_, by omega, fun x hx => ?_⟩
  · have h1 := sum_mem szRk hx
    unfold szRk at h1
    unfold szRk at h
    have h3 : szRw x = x.row.length + 1 := rfl
    by_cases hv : x.ver < 9223372036854775808
    · rw [if_pos hv] at h1
      exact ⟨by omega, hv, by omega⟩
    · rw [if_neg hv] at h1
      omega
  · have h1 := sum_mem szBk hx
    have h2 : szBk x = x.key.data.toList.length + (szL x.ev + 1) := rfl
    have h4 := sum_mem (fun x : Bn => x.ev.length) hx
    unfold evN at hf
    refine ⟨by omega, by omega, fun e he => ?_⟩
    have h3 := (szL_small (Nat.le_refl (szL x.ev))).2 e he
    omega
end Go.Proofs.YtkaaddahegkmgaaGreat
namespace Go.Proofs.YtkaaddahegkmgaaGreat
open Go.ChangeShapes Go.WideShapes Go.ChangeAt Go.RowKit
theorem puts_len {bs bs' : List Bn} {ts : List Wt} (h : Puts bs ts bs') : bs'.length ≤ bs.length + ts.length := by
  induction h with
  | nil => simp
  | snoc h hp _ _ ih =>
    have := pt_len hp
    rw [List.length_append]
    simp only [List.length_cons, List.length_nil]
    omega
theorem mayK (row : List UInt8) (h : row.length ≤ 524288) : mayB ⟨⟨#[107]⟩, 0, row, []⟩ = true := (mayB_iff _).2 ⟨by show (1 : Nat) ≤ 1; omega, by show (1 : Nat) ≤ 64; omega, by show (0 : Int) ≤ 0; omega, by show (0 : Int) ≤ 2147483648; omega, h, by show (0 : Nat) ≤ 4; omega, fun t h => by cases h⟩
set_option maxHeartbeats 8000000 in
set_option maxRecDepth 100000 in
theorem awake_calls (w : World) : Calls Tryz.prog 5 #[] w fun e w' => e = .returned (.bool true) ∧ Below w.heap.size w w' := by
  have hbA := bel1 w (.cells #[.int .u8 97] 5 (1, 2))
  have hcA : (w.alloc (.cells #[.int .u8 97] 5 (1, 2))).cell? ⟨w.heap.size, 0, none⟩ = some (eb 97) := row_cell (j := 0) (heap_alloc_last w (.cells #[.int .u8 97] 5 (1, 2))) rfl
  have cv := Lib.run_convert_bytes_const (P := Tryz.prog) w 26 5 #[.int .u8 97] 1 1 Tryz.underlying26 Tryz.underlying5
  go_enter Tryz.func5, Tryz.ntmps5
  go_wp2_with fail
  clear cv
  generalize w.alloc (.cells #[.int .u8 97] 5 (1, 2)) = wA at hbA hcA ⊢
  refine (apply_calls _ _ ⟨[], []⟩ ⟨⟨#[107]⟩, 0, [97], []⟩ wA ⟨_, _, rfl, Sl.nil _ _, Sl.nil _ _⟩ ⟨by decide, fun e h => (by cases h), by decide, fun e h => (by cases h)⟩
    ⟨_, _, rfl, ⟨some ⟨w.heap.size, 0, none⟩, 1, rfl, by decide, by decide, fun i x hx => ⟨_, _, rfl, trivial, by
      match i, hx with
      | 0, hx => cases hx; exact hcA
      | i + 1, hx => simp at hx⟩⟩, Sl.nil _ _⟩ (by show (1 : Nat) ≤ _; omega) (by show (0 : Nat) ≤ _; omega) (by show (0 : Nat) ≤ _; omega)).mono ?_
  rintro e w2 ⟨⟨c, hc, _, hcw, _⟩ | ⟨_, _, u2, b2, r2, rfl, hd2, hp2, hq2, hs2⟩, hb2⟩
  · exact absurd rfl (hcw (mayK _ (by decide)) (.inr ⟨(fun y h => (by cases h)), rfl⟩))
  obtain ⟨pu, cu, rfl, _⟩ := hd2.rows.shape
  obtain ⟨pb, cb, rfl, _⟩ := hd2.brs.shape
  have HB2 : Hid (Below w.heap.size w w2) := bel2 hbA hb2
  have hb3 := bel1 w2 (.cells #[.slice pu r2.rows.length cu, .slice pb r2.brs.length cb] 25)
  have n0 := cell_new w2 #[.slice pu r2.rows.length cu, .slice pb r2.brs.length cb] 25 0
  have n1 := cell_new w2 #[.slice pu r2.rows.length cu, .slice pb r2.brs.length cb] 25 1
  have HI : Hid (IsR (fun _ => True) w2 (.agg #[.slice pu r2.rows.length cu, .slice pb r2.brs.length cb]) r2) := hd2.isR.keep fun B _ _ => ⟨rfl, trivial⟩
  have HS : Hid (SmD r2) := hs2
  have hl1 := pt_len hp2
  have hl2 := puts_len hq2
  have HLn : Hid (r2.rows.length ≤ 450 ∧ r2.brs.length ≤ 450) := ⟨by have : r2.rows.length ≤ 0 + 1 := hl1; omega, by have : r2.brs.length ≤ 0 + 0 := hl2; omega⟩
  have HPF : Hid (∃ i, Fst (fun x : Rw => x.key) r2.rows ⟨#[107]⟩ i ⟨⟨#[107]⟩, 0 + 1, [97]⟩) := pt_fst hp2
  have HVR : Hid (VerIs r2.rows ⟨#[107]⟩ (0 + 1)) := pt_ver hp2
  clear hd2 hp2 hq2 hs2 hb2 hl1 hl2
  have GC : Hid (∀ W, Below w2.heap.size w2 W → Calls Tryz.prog 14 _ W _) := fun W hW => Get_calls _ r2 ⟨#[107]⟩ W (HI.out.below hW) HS.out
  go_wp2_with fail
  refine (GC.out _ hb3).mono ?_
  rintro e w4 ⟨⟨i, x, v', hx, rfl, hv'⟩ | ⟨hno, rfl⟩, hb4⟩
  · obtain ⟨p4, c4, rfl, _⟩ := hv'.shape
    have hver : x.ver = 1 := by
      obtain ⟨j, hj⟩ := HPF.out
      rw [fst_one hx hj]
      rfl
    rw [hver]
    have HB4 : Hid (Below w2.heap.size w2 w4) := bel2 hb3 hb4
    have m0 := cell_below n0 hb4
    have m1 := cell_below n1 hb4
    have AC : Hid (∀ W, Below w2.heap.size w2 W → Calls Tryz.prog 13 #[.agg #[.slice pu r2.rows.length cu, .slice pb r2.brs.length cb], .agg #[.string ⟨#[107]⟩, .int .i64 0, .slice none 0 0, .slice none 0 0]] W (ApP r2 ⟨⟨#[107]⟩, 0, [], []⟩ W)) := fun W hW =>
      apply_calls _ _ r2 ⟨⟨#[107]⟩, 0, [], []⟩ W (HI.out.below hW) HS.out ⟨_, _, rfl, HB.nil _ _, Sl.nil _ _⟩ (by show (0 : Nat) ≤ _; omega) HLn.out.1 HLn.out.2
    have p0 := cell_below m0 (bel1 w4 (.cells #[.string ⟨#[107]⟩, .int .i64 1, .slice p4 x.row.length c4] 47))
    have p1 := cell_below m1 (bel1 w4 (.cells #[.string ⟨#[107]⟩, .int .i64 1, .slice p4 x.row.length c4] 47))
    clear hv' hb4 n0 n1 hb3
    go_wp2_with fail
    have hb5 : Below w2.heap.size w2 (w4.alloc (.cells #[.string ⟨#[107]⟩, .int .i64 1, .slice p4 x.row.length c4] 47)) := bel2 HB4.out (bel1 _ _)
    have g1 := cell_new w4 #[.string ⟨#[107]⟩, .int .i64 1, .slice p4 x.row.length c4] 47 1
    refine (AC.out _ hb5).mono ?_
    rintro e w6 ⟨⟨c, hc, hc11, _, u6, b6, rfl, hd6⟩ | ⟨_, hve, _⟩, hb6⟩
    · obtain ⟨pu6, cu6, rfl, _⟩ := hd6.rows.shape
      obtain ⟨pb6, cb6, rfl, _⟩ := hd6.brs.shape
      have h11 : c = 11 := hc11 (mayK _ (by decide)) (fun h => absurd (ver_det HVR.out h) (by decide))
      subst h11
      have g6 := cell_below g1 hb6
      have g7 := cell_below g6 (bel1 w6 (.cells #[.slice pu6 r2.rows.length cu6, .slice pb6 r2.brs.length cb6] 25))
      have HB6 : Hid (Below w.heap.size w w6) := bel2 (bel2 HB2.out hb5) hb6
      clear hd6 hb6 hb5 g1
      go_wp2_with fail
      go_ret
      exact ⟨rfl, bel2 HB6.out (bel1 _ _)⟩
    · exact absurd (ver_det HVR.out hve) (by decide)
  · obtain ⟨j, hj⟩ := HPF.out
    exact absurd rfl (hno _ (fst_mem hj))
end Go.Proofs.YtkaaddahegkmgaaGreat
