/- A state that came in is one in memory. -/
import Derived.Test.YthhnfeeakdnncaaSQ
namespace Go.Proofs.Ythhnfeeakdnncaa
open Go.ChangeAt Go.ChangeShapes Go.Deep Go.RowKit Go.WideShapes
theorem list2 {α : Type} : ∀ {l : List α}, l.length = 2 → ∃ a b, l = [a, b]
  | [a, b], _ => ⟨a, b, rfl⟩
theorem list3 {α : Type} : ∀ {l : List α}, l.length = 3 → ∃ a b c, l = [a, b, c]
  | [a, b, c], _ => ⟨a, b, c, rfl⟩
theorem list4 {α : Type} : ∀ {l : List α}, l.length = 4 → ∃ a b c d, l = [a, b, c, d]
  | [a, b, c, d], _ => ⟨a, b, c, d, rfl⟩
theorem list12 {α : Type} : ∀ {l : List α}, l.length = 12 → ∃ a0 a1 a2 a3 a4 a5 a6 a7 a8 a9 a10 a11, l = [a0, a1, a2, a3, a4, a5, a6, a7, a8, a9, a10, a11]
  | [a0, a1, a2, a3, a4, a5, a6, a7, a8, a9, a10, a11], _ => ⟨a0, a1, a2, a3, a4, a5, a6, a7, a8, a9, a10, a11, rfl⟩
theorem list17 {α : Type} : ∀ {l : List α}, l.length = 17 → ∃ a0 a1 a2 a3 a4 a5 a6 a7 a8 a9 a10 a11 a12 a13 a14 a15 a16, l = [a0, a1, a2, a3, a4, a5, a6, a7, a8, a9, a10, a11, a12, a13, a14, a15, a16]
  | [a0, a1, a2, a3, a4, a5, a6, a7, a8, a9, a10, a11, a12, a13, a14, a15, a16], _ => ⟨a0, a1, a2, a3, a4, a5, a6, a7, a8, a9, a10, a11, a12, a13, a14, a15, a16, rfl⟩
theorem list31 {α : Type} : ∀ {l : List α}, l.length = 31 → ∃ a0 a1 a2 a3 a4 a5 a6 a7 a8 a9 a10 a11 a12 a13 a14 a15 a16 a17 a18 a19 a20 a21 a22 a23 a24 a25 a26 a27 a28 a29 a30, l = [a0, a1, a2, a3, a4, a5, a6, a7, a8, a9, a10, a11, a12, a13, a14, a15, a16, a17, a18, a19, a20, a21, a22, a23, a24, a25, a26, a27, a28, a29, a30]
  | [a0, a1, a2, a3, a4, a5, a6, a7, a8, a9, a10, a11, a12, a13, a14, a15, a16, a17, a18, a19, a20, a21, a22, a23, a24, a25, a26, a27, a28, a29, a30], _ => ⟨a0, a1, a2, a3, a4, a5, a6, a7, a8, a9, a10, a11, a12, a13, a14, a15, a16, a17, a18, a19, a20, a21, a22, a23, a24, a25, a26, a27, a28, a29, a30, rfl⟩
theorem cells38 : Try.prog.cellsOf 38 = 2 := by kernel_rfl
theorem cells40 : Try.prog.cellsOf 40 = 12 := by kernel_rfl
theorem cells27 : Try.prog.cellsOf 27 = 3 := by kernel_rfl
theorem cells29 : Try.prog.cellsOf 29 = 5 := by kernel_rfl
theorem cells33 : Try.prog.cellsOf 33 = 31 := by kernel_rfl
/-- A slice of structs that came in: rows of cells, each read by itself. -/
theorem open_rows {H : Type} {enc : TypeId × Value → H} {W : World} {base : Nat} {spare : Nat → Bool} {held : Bool} {sl el : TypeId} {k : Nat} (hs : Try.prog.underlying sl = some (.slice el)) (hc : Try.prog.cellsOf el = k) (hk : 0 < k) (fuel : Nat) (cs : List Value) (x : DataW H × List MemPlace)
    (h : DataW.trod enc Try.prog W base spare held fuel sl cs = some x) (hwt : ∀ y ∈ x.1.weights Try.prog sl, y ≤ reachBytes) :
    ∃ (a : Option Addr) (cap q : Nat) (rows : List (List Value)), cs = [.slice a rows.length cap] ∧ rows.length ≤ 9223372036854775807 ∧ ∀ (i : Nat) r, rows[i]? = some r → r.length = k ∧ (∃ B o, a = some ⟨B, o, none⟩ ∧ ∀ (j : Nat) v, r[j]? = some v → W.cell? ⟨B, o + i * k + j, none⟩ = some v) ∧
      ∃ y, DataW.trod enc Try.prog W base spare held q el r = some y ∧ ∀ z ∈ y.1.weights Try.prog el, z ≤ reachBytes := by
  rcases DataW.trod_slice hs h with ⟨h4, _⟩ | ⟨a, len, cap, elems, rest, q, hq, h4, h4x, _, hl, hm, he, hx, _, _⟩
  · exact ⟨none, 0, 0, [], by rw [h4]; rfl, by simp, fun i r hr => by simp at hr⟩
  · unfold maxLen at hm
    have helem : ∀ i (hi : i < elems.length), ∀ y ∈ (elems[i]).1.weights Try.prog el, y ≤ reachBytes := fun i hi y hy => by
      apply hwt
      rw [h4x]
      simp only [DataW.weights, hs, List.mem_cons, List.mem_append]
      exact .inr (.inl (mem_all (List.mem_map.2 ⟨_, List.getElem_mem hi, rfl⟩) y hy))
    have each : ∀ i, i < len → ∃ r : List Value, r.length = k ∧ (∃ B o, a = ⟨B, o, none⟩ ∧ ∀ (j : Nat) v, r[j]? = some v → W.cell? ⟨B, o + i * k + j, none⟩ = some v) ∧ ∃ y, DataW.trod enc Try.prog W base spare held q el r = some y ∧ ∀ z ∈ y.1.weights Try.prog el, z ≤ reachBytes := by
      intro i hi
      have key := hx i hi
      rw [List.getElem?_eq_getElem (by omega)] at key
      obtain ⟨cs', k1, k2⟩ := Option.bind_eq_some_iff.1 key
      rw [hc] at k1
      obtain ⟨hl1, hl2, hcell⟩ := World.cells?_some k1
      have hlen : cs'.length = k := by first | exact hl1 | exact hl2
      have hsp : a.spot = none := by
        have key0 := hx 0 (by omega)
        rw [List.getElem?_eq_getElem (by omega)] at key0
        obtain ⟨cs0, k10, _⟩ := Option.bind_eq_some_iff.1 key0
        rw [hc] at k10
        obtain ⟨g1, g2, hcell0⟩ := World.cells?_some k10
        have hl0 : cs0.length = k := by first | exact g1 | exact g2
        have q0 := hcell0 0 (by omega)
        rw [List.getElem?_eq_getElem (by omega)] at q0
        have := plain_addr q0
        simpa [Addr.add] using this
      obtain ⟨B, o, sp⟩ := a
      cases hsp
      refine ⟨cs', hlen, ⟨B, o, rfl, fun j v hj => ?_⟩, _, k2, helem i (by omega)⟩
      have hjl := (List.getElem?_eq_some_iff.1 hj).1
      have := hcell j (by omega)
      rw [addp, addp] at this
      rw [this]
      simpa using hj
    have inh : Inhabited (List Value) := ⟨[]⟩
    obtain ⟨F, hF⟩ := choose_lt each
    refine ⟨some a, cap, q, (List.range len).map F, by rw [h4]; simp, by simp; omega, fun i r hr => ?_⟩
    have hi : i < len := by have := (List.getElem?_eq_some_iff.1 hr).1; simpa using this
    rw [List.getElem?_map, List.getElem?_range hi] at hr
    cases hr
    obtain ⟨h1, ⟨B, o, h2, h3⟩, h5⟩ := hF i hi
    exact ⟨h1, ⟨B, o, by rw [h2], h3⟩, h5⟩
set_option maxRecDepth 100000 in
theorem open_tm {H : Type} {enc : TypeId × Value → H} {W : World} {base : Nat} {spare : Nat → Bool} {held : Bool} (fuel : Nat) (cs : List Value) (x : DataW H × List MemPlace) (h : DataW.trod enc Try.prog W base spare held fuel 38 cs = some x) :
    ∃ t : Tm, cs = [.string t.s, .int .i64 t.d] ∧ -9223372036854775808 ≤ t.d ∧ t.d ≤ 9223372036854775807 := by
  obtain ⟨xs, k, hk, hxy, hlen, hxl, hf⟩ := DataW.trod_struct Try.underlying38 h
  rw [cells38] at hlen
  obtain ⟨c0, c1, rfl⟩ := list2 hlen
  obtain ⟨y0, y1, rfl⟩ := list2 (l := xs) hxl
  have g0 := hf 0 _ rfl
  have g1 := hf 1 _ rfl
  clear hf hxl hlen hxy h
  simp only [List.getElem?_cons_zero, List.getElem?_cons_succ] at g0 g1
  obtain ⟨n0, e0, _, w0⟩ := DataW.trod_string Try.underlying9 g0
  obtain ⟨n1, e1, _, w1⟩ := DataW.trod_int Try.underlying3 g1
  cases e0; cases e1
  exact ⟨⟨n0, n1⟩, rfl, lo64 w1⟩
set_option maxRecDepth 100000 in
theorem open_po {H : Type} {enc : TypeId × Value → H} {W : World} {base : Nat} {spare : Nat → Bool} {held : Bool} (fuel : Nat) (cs : List Value) (x : DataW H × List MemPlace) (h : DataW.trod enc Try.prog W base spare held fuel 27 cs = some x) :
    ∃ (f : Int) (c : Nat) (m : Int), cs = [.int .i64 f, .int .u64 (c : Int), .int .i64 m] ∧ c < 18446744073709551616 := by
  obtain ⟨xs, k, hk, hxy, hlen, hxl, hf⟩ := DataW.trod_struct Try.underlying27 h
  rw [cells27] at hlen
  obtain ⟨c0, c1, c2, rfl⟩ := list3 hlen
  obtain ⟨y0, y1, y2, rfl⟩ := list3 (l := xs) hxl
  have g0 := hf 0 _ rfl
  have g1 := hf 1 _ rfl
  have g2 := hf 2 _ rfl
  clear hf hxl hlen hxy h
  simp only [List.getElem?_cons_zero, List.getElem?_cons_succ] at g0 g1 g2
  obtain ⟨n0, e0, _, w0⟩ := DataW.trod_int Try.underlying3 g0
  obtain ⟨n1, e1, _, w1⟩ := DataW.trod_int Try.underlying22 g1
  obtain ⟨n2, e2, _, w2⟩ := DataW.trod_int Try.underlying3 g2
  cases e0; cases e1; cases e2
  have g1 := lou64 w1
  refine ⟨n0, n1.toNat, n2, ?_, by omega⟩
  rw [Int.toNat_of_nonneg g1.1]
set_option maxRecDepth 100000 in
theorem open_task {H : Type} {enc : TypeId × Value → H} {W : World} {base : Nat} {spare : Nat → Bool} {held : Bool} (fuel : Nat) (cs : List Value) (x : DataW H × List MemPlace) (h : DataW.trod enc Try.prog W base spare held fuel 29 cs = some x) :
    ∃ a b c d e : Int, cs = [.int .i64 a, .int .i64 b, .int .i64 c, .int .i64 d, .int .i64 e] := by
  obtain ⟨xs, k, hk, hxy, hlen, hxl, hf⟩ := DataW.trod_struct Try.underlying29 h
  rw [cells29] at hlen
  obtain ⟨c0, c1, c2, c3, c4, rfl⟩ := list5 hlen
  obtain ⟨y0, y1, y2, y3, y4, rfl⟩ := list5 (l := xs) hxl
  have g0 := hf 0 _ rfl
  have g1 := hf 1 _ rfl
  have g2 := hf 2 _ rfl
  have g3 := hf 3 _ rfl
  have g4 := hf 4 _ rfl
  clear hf hxl hlen hxy h
  simp only [List.getElem?_cons_zero, List.getElem?_cons_succ] at g0 g1 g2 g3 g4
  obtain ⟨n0, e0, _, _⟩ := DataW.trod_int Try.underlying3 g0
  obtain ⟨n1, e1, _, _⟩ := DataW.trod_int Try.underlying3 g1
  obtain ⟨n2, e2, _, _⟩ := DataW.trod_int Try.underlying3 g2
  obtain ⟨n3, e3, _, _⟩ := DataW.trod_int Try.underlying3 g3
  obtain ⟨n4, e4, _, _⟩ := DataW.trod_int Try.underlying3 g4
  cases e0; cases e1; cases e2; cases e3; cases e4
  exact ⟨_, _, _, _, _, rfl⟩
theorem isV5 {W : World} {n : Nat} {v0 v1 v2 v3 v4 : Value} {t : Tv} (h : Is W n (.agg #[v0, v1, v2, v3, v4]) t) {cs : Array Value} {p : Nat} (h0 : cs[p]? = some v0) (h1 : cs[p + 1]? = some v1) (h2 : cs[p + 2]? = some v2) (h3 : cs[p + 3]? = some v3) (h4 : cs[p + 4]? = some v4) : V5 (Is W n) cs p t := by
  obtain ⟨k, x, b, s, a, m, c, rfl, rfl, rfl, rfl, rfl⟩ := h.shape
  exact ⟨k, x, b, s, a, m, c, h0, h1, h2, h3, h4, h⟩
set_option maxRecDepth 100000 in
theorem open_up {H : Type} {enc : TypeId × Value → H} {W : World} {base : Nat} {spare : Nat → Bool} {held : Bool} (fuel : Nat) (cs : List Value) (x : DataW H × List MemPlace) (h : DataW.trod enc Try.prog W base spare held fuel 40 cs = some x) (hwt : ∀ y ∈ x.1.weights Try.prog 40, y ≤ reachBytes) :
    ∃ (u : Up) (n : Nat), IsU (Is W n) cs.toArray u ∧ SmallW n u.v ∧ SmallW n u.o := by
  obtain ⟨xs, q, hk, hxy, hlen, hxl, hf⟩ := DataW.trod_struct Try.underlying40 h
  rw [cells40] at hlen
  obtain ⟨a0, a1, a2, a3, a4, a5, a6, a7, a8, a9, a10, a11, rfl⟩ := list12 hlen
  obtain ⟨y0, y1, y2, y3, rfl⟩ := list4 (l := xs) hxl
  have hw1 : ∀ y ∈ y1.1.weights Try.prog 25, y ≤ reachBytes := fun y hy => by
    apply hwt
    rw [hxy]
    simp only [DataW.weights, Try.underlying40]
    exact DataW.weights_mem_each (j := 1) rfl rfl y hy
  have hw3 : ∀ y ∈ y3.1.weights Try.prog 25, y ≤ reachBytes := fun y hy => by
    apply hwt
    rw [hxy]
    simp only [DataW.weights, Try.underlying40]
    exact DataW.weights_mem_each (j := 3) rfl rfl y hy
  clear hwt
  have g0 := hf 0 _ rfl
  have g1 := hf 1 _ rfl
  have g2 := hf 2 _ rfl
  have g3 := hf 3 _ rfl
  clear hf hxl hlen hxy h
  simp only [List.getElem?_cons_zero, List.getElem?_cons_succ] at g0 g1 g2 g3
  obtain ⟨s0, p0, _, _⟩ := DataW.trod_string Try.underlying9 g0
  obtain ⟨v0, v1, v2, v3, v4, t1, m1, p1, i1, sm1⟩ := open_valW q _ _ g1 hw1
  obtain ⟨n2, p2, _, _⟩ := DataW.trod_int Try.underlying3 g2
  obtain ⟨o0, o1, o2, o3, o4, t3, m3, p3, i3, sm3⟩ := open_valW q _ _ g3 hw3
  cases p0; cases p1; cases p2; cases p3
  refine ⟨⟨s0, t1, n2, t3⟩, m1 + m3, ⟨rfl, rfl, isV5 (i1.up (by omega)) rfl rfl rfl rfl rfl, rfl, isV5 (i3.up (by omega)) rfl rfl rfl rfl rfl⟩, sm1.up (by omega), sm3.up (by omega)⟩
set_option maxRecDepth 100000 in
theorem open_sta {H : Type} {enc : TypeId × Value → H} {W : World} {base : Nat} {spare : Nat → Bool} {held : Bool} (fuel : Nat) (cs : List Value) (x : DataW H × List MemPlace) (h : DataW.trod enc Try.prog W base spare held fuel 33 cs = some x) (hwt : ∀ y ∈ x.1.weights Try.prog 33, y ≤ reachBytes) :
    ∃ (s : Sta) (n : Nat), Rs W n cs.toArray s ∧ SmS n s ∧ s.pc < 18446744073709551616 := by
  obtain ⟨xs, q, hk, hxy, hlen, hxl, hf⟩ := DataW.trod_struct Try.underlying33 h
  rw [cells33] at hlen
  obtain ⟨a0, a1, a2, a3, a4, a5, a6, a7, a8, a9, a10, a11, a12, a13, a14, a15, a16, a17, a18, a19, a20, a21, a22, a23, a24, a25, a26, a27, a28, a29, a30, rfl⟩ := list31 hlen
  obtain ⟨y0, y1, y2, y3, y4, y5, y6, y7, y8, y9, y10, y11, y12, y13, y14, y15, y16, rfl⟩ := list17 (l := xs) hxl
  have hw8 : ∀ y ∈ y8.1.weights Try.prog 25, y ≤ reachBytes := fun y hy => by
    apply hwt
    rw [hxy]
    simp only [DataW.weights, Try.underlying33]
    exact DataW.weights_mem_each (j := 8) rfl rfl y hy
  have hw13 : ∀ y ∈ y13.1.weights Try.prog 30, y ≤ reachBytes := fun y hy => by
    apply hwt
    rw [hxy]
    simp only [DataW.weights, Try.underlying33]
    exact DataW.weights_mem_each (j := 13) rfl rfl y hy
  have hw14 : ∀ y ∈ y14.1.weights Try.prog 31, y ≤ reachBytes := fun y hy => by
    apply hwt
    rw [hxy]
    simp only [DataW.weights, Try.underlying33]
    exact DataW.weights_mem_each (j := 14) rfl rfl y hy
  have hw15 : ∀ y ∈ y15.1.weights Try.prog 25, y ≤ reachBytes := fun y hy => by
    apply hwt
    rw [hxy]
    simp only [DataW.weights, Try.underlying33]
    exact DataW.weights_mem_each (j := 15) rfl rfl y hy
  clear hwt
  have g0 := hf 0 _ rfl
  have g1 := hf 1 _ rfl
  have g2 := hf 2 _ rfl
  have g3 := hf 3 _ rfl
  have g4 := hf 4 _ rfl
  have g5 := hf 5 _ rfl
  have g6 := hf 6 _ rfl
  have g7 := hf 7 _ rfl
  have g8 := hf 8 _ rfl
  have g9 := hf 9 _ rfl
  have g10 := hf 10 _ rfl
  have g11 := hf 11 _ rfl
  have g12 := hf 12 _ rfl
  have g13 := hf 13 _ rfl
  have g14 := hf 14 _ rfl
  have g15 := hf 15 _ rfl
  have g16 := hf 16 _ rfl
  clear hf hxl hlen hxy h
  simp only [List.getElem?_cons_zero, List.getElem?_cons_succ] at g0 g1 g2 g3 g4 g5 g6 g7 g8 g9 g10 g11 g12 g13 g14 g15 g16
  obtain ⟨n0, p0, _, _⟩ := DataW.trod_int Try.underlying3 g0
  obtain ⟨n1, p1, _, _⟩ := DataW.trod_int Try.underlying3 g1
  obtain ⟨n2, p2, _, _⟩ := DataW.trod_int Try.underlying3 g2
  obtain ⟨n3, p3, _, _⟩ := DataW.trod_int Try.underlying3 g3
  obtain ⟨n4, p4, _, _⟩ := DataW.trod_int Try.underlying3 g4
  obtain ⟨n5, p5, _, _⟩ := DataW.trod_int Try.underlying3 g5
  obtain ⟨n6, p6, _, _⟩ := DataW.trod_int Try.underlying3 g6
  obtain ⟨s7, p7, _, _⟩ := DataW.trod_string Try.underlying9 g7
  obtain ⟨v0, v1, v2, v3, v4, t8, m8, p8, i8, sm8⟩ := open_valW q _ _ g8 hw8
  obtain ⟨f9, c9, m9, p9, q9⟩ := open_po q _ _ g9
  obtain ⟨k0, k1, k2, k3, k4, p10⟩ := open_task q _ _ g10
  obtain ⟨b11, p11, _⟩ := DataW.trod_bool Try.underlying4 g11
  obtain ⟨b12, p12, _⟩ := DataW.trod_bool Try.underlying4 g12
  obtain ⟨ta, tc, tq, trows, p13, _, ht⟩ := open_rows Try.underlying30 cells38 (by decide) q _ _ g13 hw13
  obtain ⟨ua, uc, uq, urows, p14, _, hu⟩ := open_rows Try.underlying31 cells40 (by decide) q _ _ g14 hw14
  obtain ⟨o0, o1, o2, o3, o4, t15, m15, p15, i15, sm15⟩ := open_valW q _ _ g15 hw15
  obtain ⟨s16, p16, _, _⟩ := DataW.trod_string Try.underlying9 g16
  cases p0; cases p1; cases p2; cases p3; cases p4; cases p5; cases p6; cases p7; cases p8; cases p9; cases p10; cases p11; cases p12; cases p13; cases p14; cases p15; cases p16
  have inh1 : Inhabited Tm := ⟨⟨⟨#[]⟩, 0⟩⟩
  have inh2 : Inhabited (Up × Nat) := ⟨⟨⟨#[]⟩, t8, 0, t8⟩, 0⟩
  have et : ∀ i, i < trows.length → ∃ t : Tm, trows[i]? = some [.string t.s, .int .i64 t.d] := fun i hi => by
    obtain ⟨_, _, y, hy, _⟩ := ht i _ (List.getElem?_eq_getElem hi)
    obtain ⟨t, e, _⟩ := open_tm _ _ _ hy
    exact ⟨t, by rw [List.getElem?_eq_getElem hi, e]⟩
  have eu : ∀ i, i < urows.length → ∃ u : Up × Nat, ∃ r, urows[i]? = some r ∧ IsU (Is W u.2) r.toArray u.1 ∧ SmallW u.2 u.1.v ∧ SmallW u.2 u.1.o := fun i hi => by
    obtain ⟨_, _, y, hy, hz⟩ := hu i _ (List.getElem?_eq_getElem hi)
    obtain ⟨u, n, e⟩ := open_up _ _ _ hy hz
    exact ⟨(u, n), _, List.getElem?_eq_getElem hi, e⟩
  obtain ⟨FT, hFT⟩ := choose_lt et
  obtain ⟨FU, hFU⟩ := choose_lt eu
  obtain ⟨N, hN⟩ := fuel_lt (n := urows.length) (q := fun i N => (FU i).2 ≤ N) (fun _ _ _ h h' => Nat.le_trans h' h) (fun i _ => ⟨_, Nat.le_refl _⟩)
  have hup : ∀ (i : Nat) u, ((List.range urows.length).map fun i => (FU i).1)[i]? = some u → i < urows.length ∧ u = (FU i).1 := fun i u h => by
    have hi : i < urows.length := by have := (List.getElem?_eq_some_iff.1 h).1; simpa using this
    rw [List.getElem?_map, List.getElem?_range hi] at h
    cases h
    exact ⟨hi, rfl⟩
  refine ⟨⟨n0, n1, n2, n3, n4, n5, n6, s7, t8, f9, c9, m9, k0, k1, k2, k3, k4, b11, b12, (List.range trows.length).map FT, (List.range urows.length).map fun i => (FU i).1, t15, s16⟩, m8 + m15 + N, ?_, ⟨sm8.up (by omega), sm15.up (by omega), fun i u h => ?_⟩, q9⟩
  · refine { size := rfl, c0 := rfl, c1 := rfl, c2 := rfl, c3 := rfl, c4 := rfl, c5 := rfl, c6 := rfl, c7 := rfl, c13 := rfl, c14 := rfl, c15 := rfl, c16 := rfl, c17 := rfl, c18 := rfl, c19 := rfl, c20 := rfl, c21 := rfl, c22 := rfl, c30 := rfl, inp := isV5 (i8.up (by omega)) rfl rfl rfl rfl rfl, res := isV5 (i15.up (by omega)) rfl rfl rfl rfl rfl, tm := ⟨ta, tc, by simp, fun i r hr => ?_⟩, up := ⟨ua, uc, urows.map List.toArray, by simp, by simp, fun i r hr => ?_, fun i r u hr h => ?_⟩ }
    · have hi : i < trows.length := by have := (List.getElem?_eq_some_iff.1 hr).1; simpa using this
      rw [List.getElem?_map, List.getElem?_map, List.getElem?_range hi] at hr
      cases hr
      obtain ⟨_, ⟨B, o, h2, h3⟩, _⟩ := ht i _ (hFT i hi)
      refine ⟨rfl, fun j v hj => ?_, B, o, h2, trivial, fun j v hj => h3 j v (by simpa [Tm.cells] using hj)⟩
      have hj2 : [Value.string (FT i).s, .int .i64 (FT i).d][j]? = some v := by simpa [Tm.cells] using hj
      have hm := List.mem_of_getElem? hj2
      simp only [List.mem_cons, List.not_mem_nil, or_false] at hm
      rcases hm with rfl | rfl <;> rfl
    · have hi : i < urows.length := by have := (List.getElem?_eq_some_iff.1 hr).1; simpa using this
      obtain ⟨r', hr', e⟩ := hFU i hi
      rw [List.getElem?_map, hr'] at hr
      cases hr
      obtain ⟨h1, ⟨B, o, h2, h3⟩, _⟩ := hu i _ hr'
      exact ⟨by simpa using h1, e.1.one, B, o, h2, trivial, fun j v hj => h3 j v (by simpa using hj)⟩
    · obtain ⟨hi, rfl⟩ := hup i u h
      obtain ⟨r', hr', e⟩ := hFU i hi
      rw [List.getElem?_map, hr'] at hr
      cases hr
      exact e.1.map fun v t hv => hv.up (by have := hN i hi; omega)
  · obtain ⟨hi, rfl⟩ := hup i u h
    obtain ⟨r', hr', e⟩ := hFU i hi
    exact ⟨e.2.1.up (by have := hN i hi; omega), e.2.2.up (by have := hN i hi; omega)⟩
end Go.Proofs.Ythhnfeeakdnncaa
