/- The opening of a request. -/
import Derived.Test.YtddigndamimmpaaDoorSM
import Derived.Test.YtddigndamimmpaaDoorLF
import Derived.Deep.Slices
import Derived.ChangeArms
import Derived.ChangeSame
import Derived.SizedLaws
import Derived.Laws.EntriesVeiled
namespace Go.Proofs.YtddigndamimmpaaDoor
open Go.ChangeShapes Go.WideShapes Go.ChangeAt Go.RowKit
theorem lsq3 {α : Type} : ∀ {l : List α}, l.length = 3 → ∃ e0 e1 e2, l = [e0, e1, e2]
  | [e0, e1, e2], _ => ⟨e0, e1, e2, rfl⟩
theorem lsq6 {α : Type} : ∀ {l : List α}, l.length = 6 → ∃ e0 e1 e2 e3 e4 e5, l = [e0, e1, e2, e3, e4, e5]
  | [e0, e1, e2, e3, e4, e5], _ => ⟨e0, e1, e2, e3, e4, e5, rfl⟩
theorem lsq8 {α : Type} : ∀ {l : List α}, l.length = 8 → ∃ e0 e1 e2 e3 e4 e5 e6 e7, l = [e0, e1, e2, e3, e4, e5, e6, e7]
  | [e0, e1, e2, e3, e4, e5, e6, e7], _ => ⟨e0, e1, e2, e3, e4, e5, e6, e7, rfl⟩
theorem lsq11 {α : Type} : ∀ {l : List α}, l.length = 11 → ∃ e0 e1 e2 e3 e4 e5 e6 e7 e8 e9 e10, l = [e0, e1, e2, e3, e4, e5, e6, e7, e8, e9, e10]
  | [e0, e1, e2, e3, e4, e5, e6, e7, e8, e9, e10], _ => ⟨e0, e1, e2, e3, e4, e5, e6, e7, e8, e9, e10, rfl⟩
theorem lsq17 {α : Type} : ∀ {l : List α}, l.length = 17 → ∃ e0 e1 e2 e3 e4 e5 e6 e7 e8 e9 e10 e11 e12 e13 e14 e15 e16, l = [e0, e1, e2, e3, e4, e5, e6, e7, e8, e9, e10, e11, e12, e13, e14, e15, e16]
  | [e0, e1, e2, e3, e4, e5, e6, e7, e8, e9, e10, e11, e12, e13, e14, e15, e16], _ => ⟨e0, e1, e2, e3, e4, e5, e6, e7, e8, e9, e10, e11, e12, e13, e14, e15, e16, rfl⟩
theorem lsq2 {α : Type} : ∀ {l : List α}, l.length = 2 → ∃ e0 e1, l = [e0, e1]
  | [e0, e1], _ => ⟨e0, e1, rfl⟩
theorem lsq4 {α : Type} : ∀ {l : List α}, l.length = 4 → ∃ e0 e1 e2 e3, l = [e0, e1, e2, e3]
  | [e0, e1, e2, e3], _ => ⟨e0, e1, e2, e3, rfl⟩
theorem clQ49 : Tryd.prog.cellsOf 49 = 8 := by kernel_rfl
theorem clQ51 : Tryd.prog.cellsOf 51 = 6 := by kernel_rfl
theorem clQ27 : Tryd.prog.cellsOf 27 = 3 := by kernel_rfl
theorem clQ31 : Tryd.prog.cellsOf 31 = 17 := by kernel_rfl
open Go.Deep
theorem open_rows {H : Type} {enc : TypeId × Value → H} {W : World} {base : Nat} {spare : Nat → Bool} {held : Bool} {sl el : TypeId} {k : Nat} (hs : Tryd.prog.underlying sl = some (.slice el)) (hc : Tryd.prog.cellsOf el = k) (hk : 0 < k) (fuel : Nat) (cs : List Value) (x : DataW H × List MemPlace)
    (h : DataW.trod enc Tryd.prog W base spare held fuel sl cs = some x) (hwt : ∀ y ∈ x.1.weights Tryd.prog sl, y ≤ reachBytes) :
    ∃ (a : Option Addr) (cap q : Nat) (rows : List (List Value)), cs = [.slice a rows.length cap] ∧ rows.length ≤ 9223372036854775807 ∧ ∀ (i : Nat) r, rows[i]? = some r → r.length = k ∧ (∃ B o, a = some ⟨B, o, none⟩ ∧ ∀ (j : Nat) v, r[j]? = some v → W.cell? ⟨B, o + i * k + j, none⟩ = some v) ∧
      ∃ y, DataW.trod enc Tryd.prog W base spare held q el r = some y ∧ ∀ z ∈ y.1.weights Tryd.prog el, z ≤ reachBytes := by
  rcases DataW.trod_slice hs h with ⟨h4, _⟩ | ⟨a, len, cap, elems, rest, q, hq, h4, h4x, _, hl, hm, he, hx, _, _⟩
  · exact ⟨none, 0, 0, [], by rw [h4]; rfl, by simp, fun i r hr => by simp at hr⟩
  · unfold maxLen at hm
    have helem : ∀ i (hi : i < elems.length), ∀ y ∈ (elems[i]).1.weights Tryd.prog el, y ≤ reachBytes := fun i hi y hy => by
      apply hwt
      rw [h4x]
      simp only [DataW.weights, hs, List.mem_cons, List.mem_append]
      exact .inr (.inl (mem_all (List.mem_map.2 ⟨_, List.getElem_mem hi, rfl⟩) y hy))
    have each : ∀ i, i < len → ∃ r : List Value, r.length = k ∧ (∃ B o, a = ⟨B, o, none⟩ ∧ ∀ (j : Nat) v, r[j]? = some v → W.cell? ⟨B, o + i * k + j, none⟩ = some v) ∧ ∃ y, DataW.trod enc Tryd.prog W base spare held q el r = some y ∧ ∀ z ∈ y.1.weights Tryd.prog el, z ≤ reachBytes := by
      intro i hi
      have key := hx i hi
      rw [List.getElem?_eq_getElem (by omega)] at key
      obtain ⟨cs', k1, k2⟩ := Option.bind_eq_some_iff.1 key
      rw [hc] at k1
      obtain ⟨hl1, hl2, hcell⟩ := World.cells?_some k1
      have hlen : cs'.length = k := by first | exact hl1 | exact hl2
      have hsp : a.spot = none := by
        have key0 := hx 0 (by omega)
        rw [List.getElem?_eq_getElem (by omega)] at key0
        obtain ⟨cs0, k10, _⟩ := Option.bind_eq_some_iff.1 key0
        rw [hc] at k10
        obtain ⟨g1, g2, hcell0⟩ := World.cells?_some k10
        have hl0 : cs0.length = k := by first | exact g1 | exact g2
        have q0 := hcell0 0 (by omega)
        rw [List.getElem?_eq_getElem (by omega)] at q0
        have := plain_addr q0
        simpa [Addr.add] using this
      obtain ⟨B, o, sp⟩ := a
      cases hsp
      refine ⟨cs', hlen, ⟨B, o, rfl, fun j v hj => ?_⟩, _, k2, helem i (by omega)⟩
      have hjl := (List.getElem?_eq_some_iff.1 hj).1
      have := hcell j (by omega)
      rw [addp, addp] at this
      rw [this]
      simpa using hj
    have inh : Inhabited (List Value) := ⟨[]⟩
    obtain ⟨F, hF⟩ := choose_lt each
    refine ⟨some a, cap, q, (List.range len).map F, by rw [h4]; simp, by simp; omega, fun i r hr => ?_⟩
    have hi : i < len := by have := (List.getElem?_eq_some_iff.1 hr).1; simpa using this
    rw [List.getElem?_map, List.getElem?_range hi] at hr
    cases hr
    obtain ⟨h1, ⟨B, o, h2, h3⟩, h5⟩ := hF i hi
    exact ⟨h1, ⟨B, o, by rw [h2], h3⟩, h5⟩
set_option maxRecDepth 100000 in
theorem open_pq {H : Type} {enc : TypeId × Value → H} {W : World} {base : Nat} {spare : Nat → Bool} {held : Bool} (fuel : Nat) (cs : List Value) (x : DataW H × List MemPlace) (h : DataW.trod enc Tryd.prog W base spare held fuel 27 cs = some x) :
    ∃ (f : Int) (c : Nat) (m : Int), cs = [.int .i64 f, .int .u64 (c : Int), .int .i64 m] ∧ c < 18446744073709551616 := by
  obtain ⟨xs, k, hk, hxy, hlen, hxl, hf⟩ := DataW.trod_struct Tryd.underlying27 h
  rw [clQ27] at hlen
  obtain ⟨c0, c1, c2, rfl⟩ := lsq3 hlen
  obtain ⟨y0, y1, y2, rfl⟩ := lsq3 (l := xs) hxl
  have g0 := hf 0 _ rfl
  have g1 := hf 1 _ rfl
  have g2 := hf 2 _ rfl
  clear hf hxl hlen hxy h
  simp only [List.getElem?_cons_zero, List.getElem?_cons_succ] at g0 g1 g2
  obtain ⟨n0, e0, _, w0⟩ := DataW.trod_int Tryd.underlying3 g0
  obtain ⟨n1, e1, _, w1⟩ := DataW.trod_int Tryd.underlying22 g1
  obtain ⟨n2, e2, _, w2⟩ := DataW.trod_int Tryd.underlying3 g2
  cases e0; cases e1; cases e2
  have g1 := lou64 w1
  refine ⟨n0, n1.toNat, n2, ?_, by omega⟩
  rw [Int.toNat_of_nonneg g1.1]
set_option maxRecDepth 100000 in
theorem open_cq {H : Type} {enc : TypeId × Value → H} {W : World} {base : Nat} {spare : Nat → Bool} {held : Bool} (fuel : Nat) (cs : List Value) (x : DataW H × List MemPlace) (h : DataW.trod enc Tryd.prog W base spare held fuel 49 cs = some x) (hwt : ∀ y ∈ x.1.weights Tryd.prog 49, y ≤ reachBytes) :
    ∃ (e : Cm) (n : Nat) (vk vx vb : Int) (vs : ByteArray) (la : Option Addr) (ll lc : Nat), cs = [.int .i64 e.k, .string e.s, .int .i64 vk, .int .i64 vx, .int .u64 vb, .string vs, .slice la ll lc, .int .i64 e.d] ∧ Is W n (.agg #[.int .i64 vk, .int .i64 vx, .int .u64 vb, .string vs, .slice la ll lc]) e.v := by
  obtain ⟨xs, q, hk, hxy, hlen, hxl, hf⟩ := DataW.trod_struct Tryd.underlying49 h
  rw [clQ49] at hlen
  obtain ⟨a0, a1, a2, a3, a4, a5, a6, a7, rfl⟩ := lsq8 hlen
  obtain ⟨y0, y1, y2, y3, rfl⟩ := lsq4 (l := xs) hxl
  have hw5 : ∀ y ∈ y2.1.weights Tryd.prog 25, y ≤ reachBytes := fun y hy => by
    apply hwt
    rw [hxy]
    simp only [DataW.weights, Tryd.underlying49]
    exact DataW.weights_mem_each (j := 2) rfl rfl y hy
  clear hwt
  have g0 := hf 0 _ rfl
  have g1 := hf 1 _ rfl
  have g2 := hf 2 _ rfl
  have g3 := hf 3 _ rfl
  clear hf hxl hlen hxy h
  simp only [List.getElem?_cons_zero, List.getElem?_cons_succ] at g0 g1 g2 g3
  obtain ⟨n0, p0, _, _⟩ := DataW.trod_int Tryd.underlying3 g0
  obtain ⟨n1, p1, _, _⟩ := DataW.trod_string Tryd.underlying9 g1
  obtain ⟨v0, v1, v2, v3, v4, t2, m2, p2, i2, sm2⟩ := open_valW q _ _ g2 hw5
  obtain ⟨n3, p3, _, _⟩ := DataW.trod_int Tryd.underlying3 g3
  cases p0; cases p1; cases p2; cases p3
  obtain ⟨k', x', b', s', a', m', c', rfl, rfl, rfl, rfl, rfl⟩ := i2.shape
  exact ⟨⟨n0, n1, t2, n3⟩, m2, k', x', b', s', a', m', c', rfl, i2⟩
set_option maxRecDepth 100000 in
theorem open_aq {H : Type} {enc : TypeId × Value → H} {W : World} {base : Nat} {spare : Nat → Bool} {held : Bool} (fuel : Nat) (cs : List Value) (x : DataW H × List MemPlace) (h : DataW.trod enc Tryd.prog W base spare held fuel 51 cs = some x) (hwt : ∀ y ∈ x.1.weights Tryd.prog 51, y ≤ reachBytes) :
    ∃ (e : An) (n : Nat) (vk vx vb : Int) (vs : ByteArray) (la : Option Addr) (ll lc : Nat), cs = [.int .i64 e.o, .int .i64 vk, .int .i64 vx, .int .u64 vb, .string vs, .slice la ll lc] ∧ Is W n (.agg #[.int .i64 vk, .int .i64 vx, .int .u64 vb, .string vs, .slice la ll lc]) e.v := by
  obtain ⟨xs, q, hk, hxy, hlen, hxl, hf⟩ := DataW.trod_struct Tryd.underlying51 h
  rw [clQ51] at hlen
  obtain ⟨a0, a1, a2, a3, a4, a5, rfl⟩ := lsq6 hlen
  obtain ⟨y0, y1, rfl⟩ := lsq2 (l := xs) hxl
  have hw5 : ∀ y ∈ y1.1.weights Tryd.prog 25, y ≤ reachBytes := fun y hy => by
    apply hwt
    rw [hxy]
    simp only [DataW.weights, Tryd.underlying51]
    exact DataW.weights_mem_each (j := 1) rfl rfl y hy
  clear hwt
  have g0 := hf 0 _ rfl
  have g1 := hf 1 _ rfl
  clear hf hxl hlen hxy h
  simp only [List.getElem?_cons_zero, List.getElem?_cons_succ] at g0 g1
  obtain ⟨n0, p0, _, _⟩ := DataW.trod_int Tryd.underlying3 g0
  obtain ⟨v0, v1, v2, v3, v4, t1, m1, p1, i1, sm1⟩ := open_valW q _ _ g1 hw5
  cases p0; cases p1
  obtain ⟨k', x', b', s', a', m', c', rfl, rfl, rfl, rfl, rfl⟩ := i1.shape
  exact ⟨⟨n0, t1⟩, m1, k', x', b', s', a', m', c', rfl, i1⟩
theorem open_cqs {H : Type} {enc : TypeId × Value → H} {W : World} {base : Nat} {spare : Nat → Bool} {held : Bool} (fuel : Nat) (cs : List Value) (x : DataW H × List MemPlace) (h : DataW.trod enc Tryd.prog W base spare held fuel 28 cs = some x) (hwt : ∀ y ∈ x.1.weights Tryd.prog 28, y ≤ reachBytes) :
    ∃ (a : Option Addr) (c : Nat) (l : List Cm) (n : Nat), cs = [.slice a l.length c] ∧ l.length ≤ 9223372036854775807 ∧ ∀ m, n ≤ m → Cms W m a l := by
  obtain ⟨a, cap, q, rows, hcs, hmax, hr⟩ := open_rows Tryd.underlying28 clQ49 (by decide) fuel _ _ h hwt
  have inh : Inhabited (Cm × Nat) := ⟨⟨0, ⟨#[]⟩, zE, 0⟩, 0⟩
  have each : ∀ i, i < rows.length → ∃ u : Cm × Nat, ∃ (r : List Value) (vk vx vb : Int) (vs : ByteArray) (la : Option Addr) (ll lc : Nat), rows[i]? = some r ∧ r = [.int .i64 u.1.k, .string u.1.s, .int .i64 vk, .int .i64 vx, .int .u64 vb, .string vs, .slice la ll lc, .int .i64 u.1.d] ∧ Is W u.2 (.agg #[.int .i64 vk, .int .i64 vx, .int .u64 vb, .string vs, .slice la ll lc]) u.1.v := fun i hi => by
    obtain ⟨_, _, y, hy, hz⟩ := hr i _ (List.getElem?_eq_getElem hi)
    obtain ⟨e, n, vk, vx, vb, vs, la, ll, lc, g1, g2⟩ := open_cq _ _ _ hy hz
    exact ⟨(e, n), _, vk, vx, vb, vs, la, ll, lc, List.getElem?_eq_getElem hi, g1, g2⟩
  obtain ⟨F, hF⟩ := choose_lt each
  obtain ⟨N, hN⟩ := fuel_lt (n := rows.length) (q := fun i N => (F i).2 ≤ N) (fun _ _ _ h h' => Nat.le_trans h' h) (fun i _ => ⟨_, Nat.le_refl _⟩)
  have hl : ((List.range rows.length).map fun i => (F i).1).length = rows.length := by simp
  refine ⟨a, cap, (List.range rows.length).map fun i => (F i).1, N, by rw [hl]; exact hcs, by rw [hl]; exact hmax, fun m hm i e he => ?_⟩
  have hi : i < rows.length := by have := (List.getElem?_eq_some_iff.1 he).1; simpa using this
  rw [List.getElem?_map, List.getElem?_range hi] at he
  cases he
  obtain ⟨r, vk, vx, vb, vs, la, ll, lc, hr1, rfl, hv⟩ := hF i hi
  obtain ⟨_, ⟨B, o, h2, h3⟩, _⟩ := hr i _ hr1
  exact ⟨B, o, vk, vx, vb, vs, la, ll, lc, h2, h3 0 _ rfl, h3 1 _ rfl, h3 2 _ rfl, h3 3 _ rfl, h3 4 _ rfl, h3 5 _ rfl, h3 6 _ rfl, h3 7 _ rfl, hv.up (by have := hN i hi; omega)⟩
theorem open_aqs {H : Type} {enc : TypeId × Value → H} {W : World} {base : Nat} {spare : Nat → Bool} {held : Bool} (fuel : Nat) (cs : List Value) (x : DataW H × List MemPlace) (h : DataW.trod enc Tryd.prog W base spare held fuel 29 cs = some x) (hwt : ∀ y ∈ x.1.weights Tryd.prog 29, y ≤ reachBytes) :
    ∃ (a : Option Addr) (c : Nat) (l : List An) (n : Nat), cs = [.slice a l.length c] ∧ l.length ≤ 9223372036854775807 ∧ ∀ m, n ≤ m → Ans W m a l := by
  obtain ⟨a, cap, q, rows, hcs, hmax, hr⟩ := open_rows Tryd.underlying29 clQ51 (by decide) fuel _ _ h hwt
  have inh : Inhabited (An × Nat) := ⟨⟨0, zE⟩, 0⟩
  have each : ∀ i, i < rows.length → ∃ u : An × Nat, ∃ (r : List Value) (vk vx vb : Int) (vs : ByteArray) (la : Option Addr) (ll lc : Nat), rows[i]? = some r ∧ r = [.int .i64 u.1.o, .int .i64 vk, .int .i64 vx, .int .u64 vb, .string vs, .slice la ll lc] ∧ Is W u.2 (.agg #[.int .i64 vk, .int .i64 vx, .int .u64 vb, .string vs, .slice la ll lc]) u.1.v := fun i hi => by
    obtain ⟨_, _, y, hy, hz⟩ := hr i _ (List.getElem?_eq_getElem hi)
    obtain ⟨e, n, vk, vx, vb, vs, la, ll, lc, g1, g2⟩ := open_aq _ _ _ hy hz
    exact ⟨(e, n), _, vk, vx, vb, vs, la, ll, lc, List.getElem?_eq_getElem hi, g1, g2⟩
  obtain ⟨F, hF⟩ := choose_lt each
  obtain ⟨N, hN⟩ := fuel_lt (n := rows.length) (q := fun i N => (F i).2 ≤ N) (fun _ _ _ h h' => Nat.le_trans h' h) (fun i _ => ⟨_, Nat.le_refl _⟩)
  have hl : ((List.range rows.length).map fun i => (F i).1).length = rows.length := by simp
  refine ⟨a, cap, (List.range rows.length).map fun i => (F i).1, N, by rw [hl]; exact hcs, by rw [hl]; exact hmax, fun m hm i e he => ?_⟩
  have hi : i < rows.length := by have := (List.getElem?_eq_some_iff.1 he).1; simpa using this
  rw [List.getElem?_map, List.getElem?_range hi] at he
  cases he
  obtain ⟨r, vk, vx, vb, vs, la, ll, lc, hr1, rfl, hv⟩ := hF i hi
  obtain ⟨_, ⟨B, o, h2, h3⟩, _⟩ := hr i _ hr1
  exact ⟨B, o, vk, vx, vb, vs, la, ll, lc, h2, h3 0 _ rfl, h3 1 _ rfl, h3 2 _ rfl, h3 3 _ rfl, h3 4 _ rfl, h3 5 _ rfl, hv.up (by have := hN i hi; omega)⟩
/-- What the walks want of a request that is handed in. -/
structure RqI (W : World) (k : Int) (f q m : ByteArray) (vk vx vb : Int) (vs : ByteArray) (la : Option Addr) (ll lc : Nat) (ru nu wa pf : Int) (pc : Nat) (pm : Int) (ca : Option Addr) (cn cc : Nat) (aa : Option Addr) (an ac : Nat) (n : Nat) (tv : Tv) (l : List Cm) (al : List An) : Prop where
  pc : pc < 18446744073709551616
  v : Is W (n + 1) (.agg #[.int .i64 vk, .int .i64 vx, .int .u64 vb, .string vs, .slice la ll lc]) tv
  c : Cms W n ca l
  a : Ans W (n + 1) aa al
  cn : cn = l.length
  an : an = al.length
set_option maxRecDepth 100000 in
theorem open_rq {H : Type} {enc : TypeId × Value → H} {W : World} {base : Nat} {spare : Nat → Bool} {held : Bool} (fuel : Nat) (cs : List Value) (x : DataW H × List MemPlace) (h : DataW.trod enc Tryd.prog W base spare held fuel 31 cs = some x) (hwt : ∀ y ∈ x.1.weights Tryd.prog 31, y ≤ reachBytes) :
    ∃ (k : Int) (f q m : ByteArray) (vk vx vb : Int) (vs : ByteArray) (la : Option Addr) (ll lc : Nat) (ru nu wa pf : Int) (pc : Nat) (pm : Int) (ca : Option Addr) (cn cc : Nat) (aa : Option Addr) (an ac : Nat) (n : Nat) (tv : Tv) (l : List Cm) (al : List An), cs = [.int .i64 k, .string f, .string q, .string m, .int .i64 vk, .int .i64 vx, .int .u64 vb, .string vs, .slice la ll lc, .int .i64 ru, .int .i64 nu, .int .i64 wa, .int .i64 pf, .int .u64 (pc : Int), .int .i64 pm, .slice ca cn cc, .slice aa an ac] ∧ RqI W k f q m vk vx vb vs la ll lc ru nu wa pf pc pm ca cn cc aa an ac n tv l al := by
  obtain ⟨xs, q, hk, hxy, hlen, hxl, hf⟩ := DataW.trod_struct Tryd.underlying31 h
  rw [clQ31] at hlen
  obtain ⟨a0, a1, a2, a3, a4, a5, a6, a7, a8, a9, a10, a11, a12, a13, a14, a15, a16, rfl⟩ := lsq17 hlen
  obtain ⟨y0, y1, y2, y3, y4, y5, y6, y7, y8, y9, y10, rfl⟩ := lsq11 (l := xs) hxl
  have hw4 : ∀ y ∈ y4.1.weights Tryd.prog 25, y ≤ reachBytes := fun y hy => by
    apply hwt
    rw [hxy]
    simp only [DataW.weights, Tryd.underlying31]
    exact DataW.weights_mem_each (j := 4) rfl rfl y hy
  have hw9 : ∀ y ∈ y9.1.weights Tryd.prog 28, y ≤ reachBytes := fun y hy => by
    apply hwt
    rw [hxy]
    simp only [DataW.weights, Tryd.underlying31]
    exact DataW.weights_mem_each (j := 9) rfl rfl y hy
  have hw10 : ∀ y ∈ y10.1.weights Tryd.prog 29, y ≤ reachBytes := fun y hy => by
    apply hwt
    rw [hxy]
    simp only [DataW.weights, Tryd.underlying31]
    exact DataW.weights_mem_each (j := 10) rfl rfl y hy
  clear hwt
  have g0 := hf 0 _ rfl
  have g1 := hf 1 _ rfl
  have g2 := hf 2 _ rfl
  have g3 := hf 3 _ rfl
  have g4 := hf 4 _ rfl
  have g5 := hf 5 _ rfl
  have g6 := hf 6 _ rfl
  have g7 := hf 7 _ rfl
  have g8 := hf 8 _ rfl
  have g9 := hf 9 _ rfl
  have g10 := hf 10 _ rfl
  clear hf hxl hlen hxy h
  simp only [List.getElem?_cons_zero, List.getElem?_cons_succ] at g0 g1 g2 g3 g4 g5 g6 g7 g8 g9 g10
  obtain ⟨n0, p0, _, _⟩ := DataW.trod_int Tryd.underlying3 g0
  obtain ⟨n1, p1, _, _⟩ := DataW.trod_string Tryd.underlying9 g1
  obtain ⟨n2, p2, _, _⟩ := DataW.trod_string Tryd.underlying9 g2
  obtain ⟨n3, p3, _, _⟩ := DataW.trod_string Tryd.underlying9 g3
  obtain ⟨v0, v1, v2, v3, v4, t4, m4, p4, i4, sm4⟩ := open_valW q _ _ g4 hw4
  obtain ⟨n5, p5, _, _⟩ := DataW.trod_int Tryd.underlying3 g5
  obtain ⟨n6, p6, _, _⟩ := DataW.trod_int Tryd.underlying3 g6
  obtain ⟨n7, p7, _, _⟩ := DataW.trod_int Tryd.underlying3 g7
  obtain ⟨pf, pc, pm, p8, hpc⟩ := open_pq _ _ _ g8
  obtain ⟨ca, cc, l, N9, p9, _, h9⟩ := open_cqs _ _ _ g9 hw9
  obtain ⟨aa, ac, al, N10, p10, _, h10⟩ := open_aqs _ _ _ g10 hw10
  cases p0; cases p1; cases p2; cases p3; cases p4; cases p5; cases p6; cases p7; cases p8; cases p9; cases p10
  obtain ⟨k', x', b', s', a', m', c', rfl, rfl, rfl, rfl, rfl⟩ := i4.shape
  exact ⟨n0, n1, n2, n3, k', x', b', s', a', m', c', n5, n6, n7, pf, pc, pm, ca, l.length, cc, aa, al.length, ac, m4 + N9 + N10, t4, l, al, rfl, ⟨hpc, i4.up (by omega), h9 _ (by omega), h10 _ (by omega), rfl, rfl⟩⟩
theorem laidOut : laidOutB Tryd.prog = true := by kernel_rfl
theorem aggN {v : Value} {k : Nat} (h : v.cells.size = k + 2) : v = .agg v.cells := by
  cases v with
  | agg cs => rfl
  | _ => simp [Value.cells] at h
end Go.Proofs.YtddigndamimmpaaDoor
