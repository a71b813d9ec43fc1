/- A table and a request that came in. -/
import Derived.Test.YtlcgjehepalmcaaTI
import Derived.Test.YtlcgjehepalmcaaVJ
import Derived.Deep.Slices
import Derived.ChangeArms
import Derived.ChangeSame
import Derived.ChangeSlices
namespace Go.Proofs.Ytlcgjehepalmcaa
open Go.ChangeAt Go.ChangeShapes Go.Deep Go.RowKit Go.WideShapes
theorem list3 {α : Type} : ∀ {l : List α}, l.length = 3 → ∃ a b c, l = [a, b, c]
  | [a, b, c], _ => ⟨a, b, c, rfl⟩
theorem list4 {α : Type} : ∀ {l : List α}, l.length = 4 → ∃ a b c d, l = [a, b, c, d]
  | [a, b, c, d], _ => ⟨a, b, c, d, rfl⟩
theorem list11 {α : Type} : ∀ {l : List α}, l.length = 11 → ∃ a0 a1 a2 a3 a4 a5 a6 a7 a8 a9 a10, l = [a0, a1, a2, a3, a4, a5, a6, a7, a8, a9, a10]
  | [a0, a1, a2, a3, a4, a5, a6, a7, a8, a9, a10], _ => ⟨a0, a1, a2, a3, a4, a5, a6, a7, a8, a9, a10, rfl⟩
theorem list17 {α : Type} : ∀ {l : List α}, l.length = 17 → ∃ a0 a1 a2 a3 a4 a5 a6 a7 a8 a9 a10 a11 a12 a13 a14 a15 a16, l = [a0, a1, a2, a3, a4, a5, a6, a7, a8, a9, a10, a11, a12, a13, a14, a15, a16]
  | [a0, a1, a2, a3, a4, a5, a6, a7, a8, a9, a10, a11, a12, a13, a14, a15, a16], _ => ⟨a0, a1, a2, a3, a4, a5, a6, a7, a8, a9, a10, a11, a12, a13, a14, a15, a16, rfl⟩
theorem cells28 : Try.prog.cellsOf 28 = 3 := by kernel_rfl
theorem cells32 : Try.prog.cellsOf 32 = 17 := by kernel_rfl
theorem cells37 : Try.prog.cellsOf 37 = 4 := by kernel_rfl
theorem mem_all {H : Type} {P : Program} {e : TypeId} : ∀ {ds : List (DataW H)} {d : DataW H}, d ∈ ds → ∀ y ∈ d.weights P e, y ∈ DataW.weightsAll P e ds
  | x :: r, d, h, y, hy => by
    simp only [DataW.weightsAll, List.mem_append]
    rcases List.mem_cons.1 h with rfl | h
    · exact .inl hy
    · exact .inr (mem_all h y hy)
/-- A slice of structs that came in: rows of cells, each read by itself. -/
theorem open_rows {H : Type} {enc : TypeId × Value → H} {W : World} {base : Nat} {spare : Nat → Bool} {held : Bool} {sl el : TypeId} {k : Nat} (hs : Try.prog.underlying sl = some (.slice el)) (hc : Try.prog.cellsOf el = k) (hk : 0 < k) (fuel : Nat) (cs : List Value) (x : DataW H × List MemPlace)
    (h : DataW.trod enc Try.prog W base spare held fuel sl cs = some x) (hwt : ∀ y ∈ x.1.weights Try.prog sl, y ≤ reachBytes) :
    ∃ (a : Option Addr) (cap q : Nat) (rows : List (List Value)), cs = [.slice a rows.length cap] ∧ rows.length ≤ 9223372036854775807 ∧ ∀ (i : Nat) r, rows[i]? = some r → r.length = k ∧ (∃ B o, a = some ⟨B, o, none⟩ ∧ ∀ (j : Nat) v, r[j]? = some v → W.cell? ⟨B, o + i * k + j, none⟩ = some v) ∧
      ∃ y, DataW.trod enc Try.prog W base spare held q el r = some y ∧ ∀ z ∈ y.1.weights Try.prog el, z ≤ reachBytes := by
  rcases DataW.trod_slice hs h with ⟨h4, _⟩ | ⟨a, len, cap, elems, rest, q, hq, h4, h4x, _, hl, hm, he, hx, _, _⟩
  · exact ⟨none, 0, 0, [], by rw [h4]; rfl, by simp, fun i r hr => by simp at hr⟩
  · unfold maxLen at hm
    have helem : ∀ i (hi : i < elems.length), ∀ y ∈ (elems[i]).1.weights Try.prog el, y ≤ reachBytes := fun i hi y hy => by
      apply hwt
      rw [h4x]
      simp only [DataW.weights, hs, List.mem_cons, List.mem_append]
      exact .inr (.inl (mem_all (List.mem_map.2 ⟨_, List.getElem_mem hi, rfl⟩) y hy))
    have each : ∀ i, i < len → ∃ r : List Value, r.length = k ∧ (∃ B o, a = ⟨B, o, none⟩ ∧ ∀ (j : Nat) v, r[j]? = some v → W.cell? ⟨B, o + i * k + j, none⟩ = some v) ∧ ∃ y, DataW.trod enc Try.prog W base spare held q el r = some y ∧ ∀ z ∈ y.1.weights Try.prog el, z ≤ reachBytes := by
      intro i hi
      have key := hx i hi
      rw [List.getElem?_eq_getElem (by omega)] at key
      obtain ⟨cs', k1, k2⟩ := Option.bind_eq_some_iff.1 key
      rw [hc] at k1
      obtain ⟨hl1, hl2, hcell⟩ := World.cells?_some k1
      have hlen : cs'.length = k := by first | exact hl1 | exact hl2
      have hsp : a.spot = none := by
        have key0 := hx 0 (by omega)
        rw [List.getElem?_eq_getElem (by omega)] at key0
        obtain ⟨cs0, k10, _⟩ := Option.bind_eq_some_iff.1 key0
        rw [hc] at k10
        obtain ⟨g1, g2, hcell0⟩ := World.cells?_some k10
        have hl0 : cs0.length = k := by first | exact g1 | exact g2
        have q0 := hcell0 0 (by omega)
        rw [List.getElem?_eq_getElem (by omega)] at q0
        have := plain_addr q0
        simpa [Addr.add] using this
      obtain ⟨B, o, sp⟩ := a
      cases hsp
      refine ⟨cs', hlen, ⟨B, o, rfl, fun j v hj => ?_⟩, _, k2, helem i (by omega)⟩
      have hjl := (List.getElem?_eq_some_iff.1 hj).1
      have := hcell j (by omega)
      rw [addp, addp] at this
      rw [this]
      simpa using hj
    have inh : Inhabited (List Value) := ⟨[]⟩
    obtain ⟨F, hF⟩ := choose_lt each
    refine ⟨some a, cap, q, (List.range len).map F, by rw [h4]; simp, by simp; omega, fun i r hr => ?_⟩
    have hi : i < len := by have := (List.getElem?_eq_some_iff.1 hr).1; simpa using this
    rw [List.getElem?_map, List.getElem?_range hi] at hr
    cases hr
    obtain ⟨h1, ⟨B, o, h2, h3⟩, h5⟩ := hF i hi
    exact ⟨h1, ⟨B, o, by rw [h2], h3⟩, h5⟩
/-- A slice of integers that came in: nil, or a row of cap cells with the numbers zs, each fitting its kind. -/
def IsRow (k : IntKind) (w : World) (a : Option Addr) (len cap : Nat) (zs : List Int) : Prop :=
  (a = none ∧ len = 0 ∧ cap = 0 ∧ zs = []) ∨
  ∃ x, a = some x ∧ len ≤ cap ∧ cap ≤ maxLen ∧ zs.length = cap ∧ (∀ i, i < zs.length → w.cell? (x.add i) = some (.int k (zs.getD i 0))) ∧ ∀ n ∈ zs, (Lit.int k n).wf = true

theorem row_holds {w : World} {a : Option Addr} {len cap : Nat} {zs : List Int} (h : IsRow .u8 w a len cap zs) : ∃ l : List UInt8, l.length = len ∧ Lib.HoldsBytes w (.slice a len cap) l := by
  rcases h with ⟨rfl, rfl, rfl, _⟩ | ⟨x, rfl, hl, _, hz, hcell, hwf⟩
  · exact ⟨[], rfl, holds_nil w⟩
  · have hlen : ((zs.take len).map fun z => UInt8.ofNat z.toNat).length = len := by rw [List.length_map, List.length_take]; omega
    refine ⟨(zs.take len).map fun z => UInt8.ofNat z.toNat, hlen, some x, cap, by rw [hlen], (fun h => by cases h), ?_⟩
    intro b hb i u hu
    cases hb
    rw [List.getElem?_map] at hu
    obtain ⟨z, hz1, rfl⟩ := Option.map_eq_some_iff.1 hu
    have hi : i < (zs.take len).length := (List.getElem?_eq_some_iff.1 hz1).1
    rw [List.length_take] at hi
    rw [List.getElem?_take_of_lt (by omega)] at hz1
    have hw := hwf z (List.mem_of_getElem? hz1)
    simp only [Lit.wf, IntKind.min, IntKind.max, IntKind.signed, IntKind.bits, Bool.and_eq_true, decide_eq_true_eq, Bool.false_eq_true, if_false] at hw
    rw [hcell i (by omega), List.getD_eq_getElem?_getD, hz1]
    have e : ((UInt8.ofNat z.toNat).toNat : Int) = z := by rw [UInt8.toNat_ofNat']; omega
    rw [e]
    rfl
set_option maxRecDepth 100000 in
theorem open_po {H : Type} {enc : TypeId × Value → H} {W : World} {base : Nat} {spare : Nat → Bool} {held : Bool} (fuel : Nat) (cs : List Value) (x : DataW H × List MemPlace) (h : DataW.trod enc Try.prog W base spare held fuel 28 cs = some x) :
    ∃ (f : Int) (c : Nat) (m : Int), cs = [.int .i64 f, .int .u64 (c : Int), .int .i64 m] ∧ c < 18446744073709551616 ∧ (Lit.int .i64 f).wf = true ∧ (Lit.int .i64 m).wf = true := by
  obtain ⟨xs, k, hk, hxy, hlen, hxl, hf⟩ := DataW.trod_struct Try.underlying28 h
  rw [cells28] at hlen
  obtain ⟨c0, c1, c2, rfl⟩ := list3 hlen
  obtain ⟨y0, y1, y2, rfl⟩ := list3 (l := xs) hxl
  have g0 := hf 0 _ rfl
  have g1 := hf 1 _ rfl
  have g2 := hf 2 _ rfl
  clear hf hxl hlen hxy h
  simp only [List.getElem?_cons_zero, List.getElem?_cons_succ] at g0 g1 g2
  obtain ⟨n0, e0, _, w0⟩ := DataW.trod_int Try.underlying3 g0
  obtain ⟨n1, e1, _, w1⟩ := DataW.trod_int Try.underlying23 g1
  obtain ⟨n2, e2, _, w2⟩ := DataW.trod_int Try.underlying3 g2
  cases e0; cases e1; cases e2
  have g1 := lou64 w1
  refine ⟨n0, n1.toNat, n2, ?_, by omega, w0, w2⟩
  rw [Int.toNat_of_nonneg g1.1]
theorem isV5 {W : World} {n : Nat} {v0 v1 v2 v3 v4 : Value} {t : Tv} (h : Is W n (.agg #[v0, v1, v2, v3, v4]) t) {cs : Array Value} {p : Nat} (h0 : cs[p]? = some v0) (h1 : cs[p + 1]? = some v1) (h2 : cs[p + 2]? = some v2) (h3 : cs[p + 3]? = some v3) (h4 : cs[p + 4]? = some v4) : V5 (Is W n) cs p t := by
  obtain ⟨k, x, b, s, a, m, c, rfl, rfl, rfl, rfl, rfl⟩ := h.shape
  exact ⟨k, x, b, s, a, m, c, h0, h1, h2, h3, h4, h⟩
set_option maxRecDepth 100000 in
theorem open_by {H : Type} {enc : TypeId × Value → H} {W : World} {base : Nat} {held : Bool} (fuel : Nat) (cs : List Value) (x : DataW H × List MemPlace) (h : DataW.trod enc Try.prog W base (fun _ => true) held fuel 35 cs = some x) (hwt : ∀ y ∈ x.1.weights Try.prog 35, y ≤ reachBytes) :
    ∃ (y : List UInt8) (p : Option Addr) (c : Nat), cs = [.slice p y.length c] ∧ Lib.HoldsBytes W (.slice p y.length c) y ∧ y.length ≤ 140737488351232 := by
  rcases open_ints Try.underlying35 Try.underlying5 (by kernel_rfl) h with ⟨hcs, _⟩ | ⟨a, l, cp, zs, hcs, _, hl, hm, hz, hx, hcell, hwz⟩
  · exact ⟨[], none, 0, hcs, holds_nil W, by simp⟩
  · obtain ⟨y, hy, hh⟩ := row_holds (w := W) (a := some a) (len := l) (cap := cp) (zs := zs) (.inr ⟨_, rfl, hl, hm, by simpa using hz, hcell, hwz⟩)
    refine ⟨y, some a, cp, by rw [hcs, hy], by rw [hy]; exact hh, ?_⟩
    have hb : Try.prog.bytesOf 5 = 1 := by kernel_rfl
    have hw := hwt (((lits (H := H) .u8 (zs.take l)).length + (lits (H := H) .u8 (zs.drop l)).length) * Try.prog.bytesOf 5) (by rw [hx]; simp [DataW.weights, Try.underlying35])
    rw [hb] at hw
    unfold reachBytes at hw
    have h1 : (lits (H := H) .u8 (zs.take l)).length = (zs.take l).length := by simp [lits]
    rw [h1, List.length_take] at hw
    simp only [if_true] at hz
    omega
set_option maxRecDepth 100000 in
theorem open_dn {H : Type} {enc : TypeId × Value → H} {W : World} {base : Nat} {held : Bool} (fuel : Nat) (cs : List Value) (x : DataW H × List MemPlace) (h : DataW.trod enc Try.prog W base (fun _ => true) held fuel 37 cs = some x) (hwt : ∀ y ∈ x.1.weights Try.prog 37, y ≤ reachBytes) :
    ∃ (d : Dn) (p : Option Addr) (c : Nat), cs = [.string d.s, .int .i64 d.k, .slice p d.y.length c, .int .i64 d.r] ∧ Lib.HoldsBytes W (.slice p d.y.length c) d.y ∧ d.y.length ≤ 140737488351232 := by
  obtain ⟨xs, q, hk, hxy, hlen, hxl, hf⟩ := DataW.trod_struct Try.underlying37 h
  rw [cells37] at hlen
  obtain ⟨a0, a1, a2, a3, rfl⟩ := list4 hlen
  obtain ⟨y0, y1, y2, y3, rfl⟩ := list4 (l := xs) hxl
  have hw2 : ∀ y ∈ y2.1.weights Try.prog 35, y ≤ reachBytes := fun y hy => by
    apply hwt
    rw [hxy]
    simp only [DataW.weights, Try.underlying37]
    exact DataW.weights_mem_each (j := 2) rfl rfl y hy
  clear hwt
  have g0 := hf 0 _ rfl
  have g1 := hf 1 _ rfl
  have g2 := hf 2 _ rfl
  have g3 := hf 3 _ rfl
  clear hf hxl hlen hxy h
  simp only [List.getElem?_cons_zero, List.getElem?_cons_succ] at g0 g1 g2 g3
  obtain ⟨s0, p0, _, _⟩ := DataW.trod_string Try.underlying9 g0
  obtain ⟨n1, p1, _, _⟩ := DataW.trod_int Try.underlying3 g1
  obtain ⟨yb, pb, cb, p2, hh, hl⟩ := open_by q _ _ g2 hw2
  obtain ⟨n3, p3, _, _⟩ := DataW.trod_int Try.underlying3 g3
  cases p0; cases p1; cases p2; cases p3
  exact ⟨⟨s0, n1, yb, n3⟩, pb, cb, rfl, hh, hl⟩
theorem open_tab {H : Type} {enc : TypeId × Value → H} {W : World} {base : Nat} {held : Bool} (fuel : Nat) (cs : List Value) (x : DataW H × List MemPlace) (h : DataW.trod enc Try.prog W base (fun _ => true) held fuel 22 cs = some x) (hwt : ∀ y ∈ x.1.weights Try.prog 22, y ≤ reachBytes) :
    ∃ (a : Option Addr) (c : Nat) (ds : List Dn), cs = [.slice a ds.length c] ∧ Tb W a ds ∧ ∀ d ∈ ds, d.y.length ≤ 140737488355328 := by
  obtain ⟨a, c, q, rows, hcs, _, hr⟩ := open_rows Try.underlying22 cells37 (by decide) fuel cs x h hwt
  have inh : Inhabited Dn := ⟨⟨⟨#[]⟩, 0, [], 0⟩⟩
  have each : ∀ i, i < rows.length → ∃ d : Dn, ∃ p c, rows[i]? = some [.string d.s, .int .i64 d.k, .slice p d.y.length c, .int .i64 d.r] ∧ Lib.HoldsBytes W (.slice p d.y.length c) d.y ∧ d.y.length ≤ 140737488351232 := fun i hi => by
    obtain ⟨_, _, y, hy, hz⟩ := hr i _ (List.getElem?_eq_getElem hi)
    obtain ⟨d, p, c, e, h1, h2⟩ := open_dn _ _ _ hy hz
    exact ⟨d, p, c, by rw [List.getElem?_eq_getElem hi, e], h1, h2⟩
  obtain ⟨F, hF⟩ := choose_lt each
  refine ⟨a, c, (List.range rows.length).map F, by rw [hcs]; simp, fun i d hd => ?_, fun d hd => ?_⟩
  · have hi : i < rows.length := by have := (List.getElem?_eq_some_iff.1 hd).1; simpa using this
    rw [List.getElem?_map, List.getElem?_range hi] at hd
    cases hd
    obtain ⟨p, c', h1, h2, _⟩ := hF i hi
    obtain ⟨_, ⟨B, o, ha, hc⟩, _⟩ := hr i _ h1
    exact ⟨B, o, p, c', ha, ⟨hc 0 _ rfl, hc 1 _ rfl, hc 2 _ rfl, hc 3 _ rfl⟩, h2⟩
  · obtain ⟨i, hi, rfl⟩ := List.mem_map.1 hd
    obtain ⟨p, c', _, _, h3⟩ := hF i (by simpa using hi)
    omega
theorem one_slice {H : Type} {enc : TypeId × Value → H} {W : World} {base : Nat} {spare : Nat → Bool} {held : Bool} {sl el : TypeId} (hs : Try.prog.underlying sl = some (.slice el)) {fuel : Nat} {c : Value} {x : DataW H × List MemPlace} (h : DataW.trod enc Try.prog W base spare held fuel sl [c] = some x) : c.oneCell' = true := by
  rcases DataW.trod_slice hs h with ⟨h4, _⟩ | ⟨a, len, cap, elems, rest, q, hq, h4, _⟩
  · cases h4; rfl
  · cases h4; rfl
set_option maxRecDepth 100000 in
theorem open_req {H : Type} {enc : TypeId × Value → H} {W : World} {base : Nat} {held : Bool} (fuel : Nat) (cs : List Value) (x : DataW H × List MemPlace) (h : DataW.trod enc Try.prog W base (fun _ => true) held fuel 32 cs = some x) (hwt : ∀ y ∈ x.1.weights Try.prog 32, y ≤ reachBytes) :
    ∃ (r : Rq) (n : Nat), IsR W n cs.toArray r := by
  obtain ⟨xs, q, hk, hxy, hlen, hxl, hf⟩ := DataW.trod_struct Try.underlying32 h
  rw [cells32] at hlen
  obtain ⟨a0, a1, a2, a3, a4, a5, a6, a7, a8, a9, a10, a11, a12, a13, a14, a15, a16, rfl⟩ := list17 hlen
  obtain ⟨y0, y1, y2, y3, y4, y5, y6, y7, y8, y9, y10, rfl⟩ := list11 (l := xs) hxl
  have hw3 : ∀ y ∈ y3.1.weights Try.prog 9, y ≤ reachBytes := fun y hy => by
    apply hwt
    rw [hxy]
    simp only [DataW.weights, Try.underlying32]
    exact DataW.weights_mem_each (j := 3) rfl rfl y hy
  clear hwt
  have g0 := hf 0 _ rfl
  have g1 := hf 1 _ rfl
  have g2 := hf 2 _ rfl
  have g3 := hf 3 _ rfl
  have g4 := hf 4 _ rfl
  have g5 := hf 5 _ rfl
  have g6 := hf 6 _ rfl
  have g7 := hf 7 _ rfl
  have g8 := hf 8 _ rfl
  have g9 := hf 9 _ rfl
  have g10 := hf 10 _ rfl
  clear hf hxl hlen hxy h
  simp only [List.getElem?_cons_zero, List.getElem?_cons_succ] at g0 g1 g2 g3 g4 g5 g6 g7 g8 g9 g10
  obtain ⟨n0, p0, _, w0⟩ := DataW.trod_int Try.underlying3 g0
  obtain ⟨s1, p1, _, _⟩ := DataW.trod_string Try.underlying9 g1
  obtain ⟨s2, p2, _, _⟩ := DataW.trod_string Try.underlying9 g2
  obtain ⟨s3, p3, x3, _⟩ := DataW.trod_string Try.underlying9 g3
  obtain ⟨v0, v1, v2, v3, v4, t4, m4, p4, i4⟩ := open_val q _ _ g4
  obtain ⟨n5, p5, _, _⟩ := DataW.trod_int Try.underlying3 g5
  obtain ⟨n6, p6, _, w6⟩ := DataW.trod_int Try.underlying3 g6
  obtain ⟨n7, p7, _, _⟩ := DataW.trod_int Try.underlying3 g7
  obtain ⟨f8, c8, m8, p8, q8, wf8, wm8⟩ := open_po q _ _ g8
  have o9 := one_slice Try.underlying29 g9
  have o10 := one_slice Try.underlying30 g10
  have hs3 : s3.size ≤ 140737488351232 := by
    have := hw3 s3.data.toList.length (by rw [x3]; simp [DataW.weights])
    unfold reachBytes at this
    rw [data_len] at this
    omega
  cases p0; cases p1; cases p2; cases p3; cases p4; cases p5; cases p6; cases p7; cases p8
  obtain ⟨pb, hpb⟩ := isput_ex m4 t4
  obtain ⟨vk, vx, vb, vs, va, vm, vc, rfl, rfl, rfl, rfl, rfl⟩ := i4.shape
  refine ⟨⟨n0, s2, s3, pb, n6, f8, c8, m8⟩, m4, { size := rfl, c0 := rfl, c2 := rfl, c3 := rfl, v := ⟨t4, isV5 i4 rfl rfl rfl rfl rfl, hpb⟩, c10 := rfl, c12 := rfl, c13 := rfl, c14 := rfl, one := fun j v hv => ?_, wk := w0, wn := w6, wf := wf8, wm := wm8, wc := q8, wq := hs3 }⟩
  have hm := List.mem_of_getElem? (show [_, _, _, _, _, _, _, _, _, _, _, _, _, _, _, _, _][j]? = some v by simpa using hv)
  simp only [List.mem_cons, List.not_mem_nil, or_false] at hm
  rcases hm with rfl | rfl | rfl | rfl | rfl | rfl | rfl | rfl | rfl | rfl | rfl | rfl | rfl | rfl | rfl | rfl | rfl <;> first | rfl | exact o9 | exact o10
end Go.Proofs.Ytlcgjehepalmcaa
