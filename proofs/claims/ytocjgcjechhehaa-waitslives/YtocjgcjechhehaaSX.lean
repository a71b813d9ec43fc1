/- Arguments that came in: waits, answers, asks, calls. -/
import Derived.Test.YtocjgcjechhehaaP
import Derived.Laws.Rows
namespace Go.Proofs.Ytocjgcjechhehaa
open Go.ChangeAt Go.ChangeShapes Go.Deep Go.RowKit Go.WideShapes
/-- A slice of structs that came in: rows of cells, each read by itself. -/
theorem open_rows {H : Type} {enc : TypeId × Value → H} {W : World} {base : Nat} {spare : Nat → Bool} {held : Bool} {sl el : TypeId} {k : Nat} (hs : Try.prog.underlying sl = some (.slice el)) (hc : Try.prog.cellsOf el = k) (hk : 0 < k) (fuel : Nat) (cs : List Value) (x : DataW H × List MemPlace)
    (h : DataW.trod enc Try.prog W base spare held fuel sl cs = some x) (hwt : ∀ y ∈ x.1.weights Try.prog sl, y ≤ reachBytes) :
    ∃ (a : Option Addr) (cap q : Nat) (rows : List (List Value)), cs = [.slice a rows.length cap] ∧ rows.length ≤ 9223372036854775807 ∧ ∀ (i : Nat) r, rows[i]? = some r → r.length = k ∧ (∃ B o, a = some ⟨B, o, none⟩ ∧ ∀ (j : Nat) v, r[j]? = some v → W.cell? ⟨B, o + i * k + j, none⟩ = some v) ∧
      ∃ y, DataW.trod enc Try.prog W base spare held q el r = some y ∧ ∀ z ∈ y.1.weights Try.prog el, z ≤ reachBytes := by
  rcases DataW.trod_slice hs h with ⟨h4, _⟩ | ⟨a, len, cap, elems, rest, q, hq, h4, h4x, _, hl, hm, he, hx, _, _⟩
  · exact ⟨none, 0, 0, [], by rw [h4]; rfl, by simp, fun i r hr => by simp at hr⟩
  · unfold maxLen at hm
    have helem : ∀ i (hi : i < elems.length), ∀ y ∈ (elems[i]).1.weights Try.prog el, y ≤ reachBytes := fun i hi y hy => by
      apply hwt
      rw [h4x]
      simp only [DataW.weights, hs, List.mem_cons, List.mem_append]
      exact .inr (.inl (mem_all (List.mem_map.2 ⟨_, List.getElem_mem hi, rfl⟩) y hy))
    have each : ∀ i, i < len → ∃ r : List Value, r.length = k ∧ (∃ B o, a = ⟨B, o, none⟩ ∧ ∀ (j : Nat) v, r[j]? = some v → W.cell? ⟨B, o + i * k + j, none⟩ = some v) ∧ ∃ y, DataW.trod enc Try.prog W base spare held q el r = some y ∧ ∀ z ∈ y.1.weights Try.prog el, z ≤ reachBytes := by
      intro i hi
      have key := hx i hi
      rw [List.getElem?_eq_getElem (by omega)] at key
      obtain ⟨cs', k1, k2⟩ := Option.bind_eq_some_iff.1 key
      rw [hc] at k1
      obtain ⟨hl1, hl2, hcell⟩ := World.cells?_some k1
      have hlen : cs'.length = k := by first | exact hl1 | exact hl2
      have hsp : a.spot = none := by
        have key0 := hx 0 (by omega)
        rw [List.getElem?_eq_getElem (by omega)] at key0
        obtain ⟨cs0, k10, _⟩ := Option.bind_eq_some_iff.1 key0
        rw [hc] at k10
        obtain ⟨g1, g2, hcell0⟩ := World.cells?_some k10
        have hl0 : cs0.length = k := by first | exact g1 | exact g2
        have q0 := hcell0 0 (by omega)
        rw [List.getElem?_eq_getElem (by omega)] at q0
        have := plain_addr q0
        simpa [Addr.add] using this
      obtain ⟨B, o, sp⟩ := a
      cases hsp
      refine ⟨cs', hlen, ⟨B, o, rfl, fun j v hj => ?_⟩, _, k2, helem i (by omega)⟩
      have hjl := (List.getElem?_eq_some_iff.1 hj).1
      have := hcell j (by omega)
      rw [addp, addp] at this
      rw [this]
      simpa using hj
    have inh : Inhabited (List Value) := ⟨[]⟩
    obtain ⟨F, hF⟩ := choose_lt each
    refine ⟨some a, cap, q, (List.range len).map F, by rw [h4]; simp, by simp; omega, fun i r hr => ?_⟩
    have hi : i < len := by have := (List.getElem?_eq_some_iff.1 hr).1; simpa using this
    rw [List.getElem?_map, List.getElem?_range hi] at hr
    cases hr
    obtain ⟨h1, ⟨B, o, h2, h3⟩, h5⟩ := hF i hi
    exact ⟨h1, ⟨B, o, by rw [h2], h3⟩, h5⟩
theorem lst2 {α : Type} : ∀ {l : List α}, l.length = 2 → ∃ e0 e1, l = [e0, e1]
  | [e0, e1], _ => ⟨e0, e1, rfl⟩
theorem lst3 {α : Type} : ∀ {l : List α}, l.length = 3 → ∃ e0 e1 e2, l = [e0, e1, e2]
  | [e0, e1, e2], _ => ⟨e0, e1, e2, rfl⟩
theorem lst6 {α : Type} : ∀ {l : List α}, l.length = 6 → ∃ e0 e1 e2 e3 e4 e5, l = [e0, e1, e2, e3, e4, e5]
  | [e0, e1, e2, e3, e4, e5], _ => ⟨e0, e1, e2, e3, e4, e5, rfl⟩
theorem lst7 {α : Type} : ∀ {l : List α}, l.length = 7 → ∃ e0 e1 e2 e3 e4 e5 e6, l = [e0, e1, e2, e3, e4, e5, e6]
  | [e0, e1, e2, e3, e4, e5, e6], _ => ⟨e0, e1, e2, e3, e4, e5, e6, rfl⟩
theorem lst8 {α : Type} : ∀ {l : List α}, l.length = 8 → ∃ e0 e1 e2 e3 e4 e5 e6 e7, l = [e0, e1, e2, e3, e4, e5, e6, e7]
  | [e0, e1, e2, e3, e4, e5, e6, e7], _ => ⟨e0, e1, e2, e3, e4, e5, e6, e7, rfl⟩
theorem lst11 {α : Type} : ∀ {l : List α}, l.length = 11 → ∃ e0 e1 e2 e3 e4 e5 e6 e7 e8 e9 e10, l = [e0, e1, e2, e3, e4, e5, e6, e7, e8, e9, e10]
  | [e0, e1, e2, e3, e4, e5, e6, e7, e8, e9, e10], _ => ⟨e0, e1, e2, e3, e4, e5, e6, e7, e8, e9, e10, rfl⟩
theorem lst19 {α : Type} : ∀ {l : List α}, l.length = 19 → ∃ e0 e1 e2 e3 e4 e5 e6 e7 e8 e9 e10 e11 e12 e13 e14 e15 e16 e17 e18, l = [e0, e1, e2, e3, e4, e5, e6, e7, e8, e9, e10, e11, e12, e13, e14, e15, e16, e17, e18]
  | [e0, e1, e2, e3, e4, e5, e6, e7, e8, e9, e10, e11, e12, e13, e14, e15, e16, e17, e18], _ => ⟨e0, e1, e2, e3, e4, e5, e6, e7, e8, e9, e10, e11, e12, e13, e14, e15, e16, e17, e18, rfl⟩
theorem lst26 {α : Type} : ∀ {l : List α}, l.length = 26 → ∃ e0 e1 e2 e3 e4 e5 e6 e7 e8 e9 e10 e11 e12 e13 e14 e15 e16 e17 e18 e19 e20 e21 e22 e23 e24 e25, l = [e0, e1, e2, e3, e4, e5, e6, e7, e8, e9, e10, e11, e12, e13, e14, e15, e16, e17, e18, e19, e20, e21, e22, e23, e24, e25]
  | [e0, e1, e2, e3, e4, e5, e6, e7, e8, e9, e10, e11, e12, e13, e14, e15, e16, e17, e18, e19, e20, e21, e22, e23, e24, e25], _ => ⟨e0, e1, e2, e3, e4, e5, e6, e7, e8, e9, e10, e11, e12, e13, e14, e15, e16, e17, e18, e19, e20, e21, e22, e23, e24, e25, rfl⟩
theorem isV5 {R : Value → Tv → Prop} {cs : Array Value} {p : Nat} {c0 c1 c2 c3 c4 : Value} {t : Tv} {w : World} {n : Nat} (h : Is w n (.agg #[c0, c1, c2, c3, c4]) t) (hR : R (.agg #[c0, c1, c2, c3, c4]) t) (h0 : cs[p]? = some c0) (h1 : cs[p + 1]? = some c1) (h2 : cs[p + 2]? = some c2) (h3 : cs[p + 3]? = some c3) (h4 : cs[p + 4]? = some c4) : V5 R cs p t := by
  obtain ⟨k, x, b, s, a, m, c, rfl, rfl, rfl, rfl, rfl⟩ := h.shape
  exact ⟨k, x, b, s, a, m, c, h0, h1, h2, h3, h4, hR⟩
theorem cellsC29 : Try.prog.cellsOf 29 = 19 := by kernel_rfl
set_option maxRecDepth 100000 in
theorem open_wt {H : Type} {enc : TypeId × Value → H} {W : World} {base : Nat} {spare : Nat → Bool} {held : Bool} (fuel : Nat) (cs : List Value) (x : DataW H × List MemPlace) (h : DataW.trod enc Try.prog W base spare held fuel 29 cs = some x) (hwt : ∀ y ∈ x.1.weights Try.prog 29, y ≤ reachBytes) :
    ∃ (e : Wt) (n : Nat), IsW (Is W n) cs.toArray e ∧ SmX n e := by
  obtain ⟨xs, q, hk, hxy, hlen, hxl, hf⟩ := DataW.trod_struct Try.underlying29 h
  rw [cellsC29] at hlen
  obtain ⟨a0, a1, a2, a3, a4, a5, a6, a7, a8, a9, a10, a11, a12, a13, a14, a15, a16, a17, a18, rfl⟩ := lst19 hlen
  obtain ⟨y0, y1, y2, y3, y4, y5, y6, y7, y8, y9, y10, rfl⟩ := lst11 (l := xs) hxl
  have hw6 : ∀ y ∈ y6.1.weights Try.prog 27, y ≤ reachBytes := fun y hy => by
    apply hwt
    rw [hxy]
    simp only [DataW.weights, Try.underlying29]
    exact DataW.weights_mem_each (j := 6) rfl rfl y hy
  have hw7 : ∀ y ∈ y7.1.weights Try.prog 27, y ≤ reachBytes := fun y hy => by
    apply hwt
    rw [hxy]
    simp only [DataW.weights, Try.underlying29]
    exact DataW.weights_mem_each (j := 7) rfl rfl y hy
  clear hwt
  have g0 := hf 0 _ rfl
  have g1 := hf 1 _ rfl
  have g2 := hf 2 _ rfl
  have g3 := hf 3 _ rfl
  have g4 := hf 4 _ rfl
  have g5 := hf 5 _ rfl
  have g6 := hf 6 _ rfl
  have g7 := hf 7 _ rfl
  have g8 := hf 8 _ rfl
  have g9 := hf 9 _ rfl
  have g10 := hf 10 _ rfl
  clear hf hxl hlen hxy h
  simp only [List.getElem?_cons_zero, List.getElem?_cons_succ] at g0 g1 g2 g3 g4 g5 g6 g7 g8 g9 g10
  obtain ⟨n0, p0, _, _⟩ := DataW.trod_int Try.underlying3 g0
  obtain ⟨n1, p1, _, _⟩ := DataW.trod_int Try.underlying3 g1
  obtain ⟨n2, p2, _, _⟩ := DataW.trod_int Try.underlying3 g2
  obtain ⟨n3, p3, _, _⟩ := DataW.trod_int Try.underlying3 g3
  obtain ⟨n4, p4, _, _⟩ := DataW.trod_string Try.underlying9 g4
  obtain ⟨n5, p5, _, _⟩ := DataW.trod_string Try.underlying9 g5
  obtain ⟨v6a, v6b, v6c, v6d, v6e, n6, m6, p6, i6, sm6⟩ := open_valW q _ _ g6 hw6
  obtain ⟨v7a, v7b, v7c, v7d, v7e, n7, m7, p7, i7, sm7⟩ := open_valW q _ _ g7 hw7
  obtain ⟨n8, p8, _⟩ := DataW.trod_bool Try.underlying4 g8
  obtain ⟨n9, p9, _⟩ := DataW.trod_bool Try.underlying4 g9
  obtain ⟨n10, p10, _, _⟩ := DataW.trod_int Try.underlying3 g10
  cases p0; cases p1; cases p2; cases p3; cases p4; cases p5; cases p6; cases p7; cases p8; cases p9; cases p10
  exact ⟨⟨n0, n1, n2, n3, n4, n5, n6, n7, n8, n9, n10⟩, max m6 m7, { size := rfl, c0 := rfl, c1 := rfl, c2 := rfl, c3 := rfl, c4 := rfl, c5 := rfl, c16 := rfl, c17 := rfl, c18 := rfl, asked := isV5 i6 (i6.up (Nat.le_max_left _ _)) rfl rfl rfl rfl rfl, value := isV5 i7 (i7.up (Nat.le_max_right _ _)) rfl rfl rfl rfl rfl }, sm6.up (Nat.le_max_left _ _), sm7.up (Nat.le_max_right _ _)⟩
theorem open_wts {H : Type} {enc : TypeId × Value → H} {W : World} {base : Nat} {spare : Nat → Bool} {held : Bool} (fuel : Nat) (cs : List Value) (x : DataW H × List MemPlace) (h : DataW.trod enc Try.prog W base spare held fuel 22 cs = some x) (hwt : ∀ y ∈ x.1.weights Try.prog 22, y ≤ reachBytes) :
    ∃ (a : Option Addr) (c : Nat) (l : List Wt) (n : Nat), cs = [.slice a l.length c] ∧ (l.length ≤ c ∧ l.length ≤ 9223372036854775807) ∧ LsW W (n + 1) a l ∧ ∀ e ∈ l, SmX (n + 1) e := by
  have hcap : ∀ a n c, cs = [.slice a n c] → n ≤ c := fun a n c e => by
    rcases DataW.trod_slice Try.underlying22 h with ⟨h4, _⟩ | ⟨a', len, cap, elems, rest, q, hq, h4, _, _, hl, _⟩
    · rw [e] at h4; cases h4; exact Nat.le_refl _
    · rw [e] at h4; cases h4; exact hl
  obtain ⟨a, cap, q, rows, hcs, hmax, hr⟩ := open_rows Try.underlying22 cellsC29 (by decide) fuel _ _ h hwt
  have inh : Inhabited (Wt × Nat) := ⟨zX, 0⟩
  have each : ∀ i, i < rows.length → ∃ u : Wt × Nat, ∃ r, rows[i]? = some r ∧ IsW (Is W u.2) r.toArray u.1 ∧ SmX u.2 u.1 := fun i hi => by
    obtain ⟨_, _, y, hy, hz⟩ := hr i _ (List.getElem?_eq_getElem hi)
    obtain ⟨e, n, g⟩ := open_wt _ _ _ hy hz
    exact ⟨(e, n), _, List.getElem?_eq_getElem hi, g⟩
  obtain ⟨F, hF⟩ := choose_lt each
  obtain ⟨N, hN⟩ := fuel_lt (n := rows.length) (q := fun i N => (F i).2 ≤ N) (fun _ _ _ h h' => Nat.le_trans h' h) (fun i _ => ⟨_, Nat.le_refl _⟩)
  have hl : ((List.range rows.length).map fun i => (F i).1).length = rows.length := by simp
  have hget : ∀ (i : Nat) e, ((List.range rows.length).map fun i => (F i).1)[i]? = some e → i < rows.length ∧ e = (F i).1 := fun i e h => by
    have hi : i < rows.length := by have := (List.getElem?_eq_some_iff.1 h).1; simpa using this
    rw [List.getElem?_map, List.getElem?_range hi] at h
    cases h
    exact ⟨hi, rfl⟩
  refine ⟨a, cap, (List.range rows.length).map fun i => (F i).1, N, by rw [hl]; exact hcs, ⟨by rw [hl]; exact hcap _ _ _ hcs, by rw [hl]; exact hmax⟩, fun i e he => ?_, fun e he => ?_⟩
  · obtain ⟨hi, rfl⟩ := hget i e he
    obtain ⟨r', hr', g⟩ := hF i hi
    obtain ⟨h1, ⟨B, o, h2, h3⟩, _⟩ := hr i _ hr'
    exact ⟨B, o, r'.toArray, h2, fun j v hj => h3 j v (by simpa using hj), g.1.map fun v t hv => hv.up (by have := hN i hi; omega)⟩
  · obtain ⟨i, hie⟩ := List.getElem?_of_mem he
    obtain ⟨hi, rfl⟩ := hget i e hie
    obtain ⟨r', hr', g⟩ := hF i hi
    exact ⟨g.2.1.up (by have := hN i hi; omega), g.2.2.up (by have := hN i hi; omega)⟩
theorem cellsC66 : Try.prog.cellsOf 66 = 6 := by kernel_rfl
set_option maxRecDepth 100000 in
theorem open_an {H : Type} {enc : TypeId × Value → H} {W : World} {base : Nat} {spare : Nat → Bool} {held : Bool} (fuel : Nat) (cs : List Value) (x : DataW H × List MemPlace) (h : DataW.trod enc Try.prog W base spare held fuel 66 cs = some x) (hwt : ∀ y ∈ x.1.weights Try.prog 66, y ≤ reachBytes) :
    ∃ (e : An) (n : Nat), IsAn (Is W n) cs.toArray e ∧ SmallW n e.v := by
  obtain ⟨xs, q, hk, hxy, hlen, hxl, hf⟩ := DataW.trod_struct Try.underlying66 h
  rw [cellsC66] at hlen
  obtain ⟨a0, a1, a2, a3, a4, a5, rfl⟩ := lst6 hlen
  obtain ⟨y0, y1, rfl⟩ := lst2 (l := xs) hxl
  have hw1 : ∀ y ∈ y1.1.weights Try.prog 27, y ≤ reachBytes := fun y hy => by
    apply hwt
    rw [hxy]
    simp only [DataW.weights, Try.underlying66]
    exact DataW.weights_mem_each (j := 1) rfl rfl y hy
  clear hwt
  have g0 := hf 0 _ rfl
  have g1 := hf 1 _ rfl
  clear hf hxl hlen hxy h
  simp only [List.getElem?_cons_zero, List.getElem?_cons_succ] at g0 g1
  obtain ⟨n0, p0, _, _⟩ := DataW.trod_int Try.underlying3 g0
  obtain ⟨v1a, v1b, v1c, v1d, v1e, n1, m1, p1, i1, sm1⟩ := open_valW q _ _ g1 hw1
  cases p0; cases p1
  exact ⟨⟨n0, n1⟩, m1, ⟨rfl, rfl, isV5 i1 i1 rfl rfl rfl rfl rfl⟩, sm1⟩
theorem open_ans {H : Type} {enc : TypeId × Value → H} {W : World} {base : Nat} {spare : Nat → Bool} {held : Bool} (fuel : Nat) (cs : List Value) (x : DataW H × List MemPlace) (h : DataW.trod enc Try.prog W base spare held fuel 30 cs = some x) (hwt : ∀ y ∈ x.1.weights Try.prog 30, y ≤ reachBytes) :
    ∃ (a : Option Addr) (c : Nat) (l : List An) (n : Nat), cs = [.slice a l.length c] ∧ (l.length ≤ c ∧ l.length ≤ 9223372036854775807) ∧ LsAn W (n + 1) a l ∧ ∀ e ∈ l, SmallW (n + 1) e.v := by
  have hcap : ∀ a n c, cs = [.slice a n c] → n ≤ c := fun a n c e => by
    rcases DataW.trod_slice Try.underlying30 h with ⟨h4, _⟩ | ⟨a', len, cap, elems, rest, q, hq, h4, _, _, hl, _⟩
    · rw [e] at h4; cases h4; exact Nat.le_refl _
    · rw [e] at h4; cases h4; exact hl
  obtain ⟨a, cap, q, rows, hcs, hmax, hr⟩ := open_rows Try.underlying30 cellsC66 (by decide) fuel _ _ h hwt
  have inh : Inhabited (An × Nat) := ⟨⟨0, .mk 0 0 0 ⟨#[]⟩ []⟩, 0⟩
  have each : ∀ i, i < rows.length → ∃ u : An × Nat, ∃ r, rows[i]? = some r ∧ IsAn (Is W u.2) r.toArray u.1 ∧ SmallW u.2 u.1.v := fun i hi => by
    obtain ⟨_, _, y, hy, hz⟩ := hr i _ (List.getElem?_eq_getElem hi)
    obtain ⟨e, n, g⟩ := open_an _ _ _ hy hz
    exact ⟨(e, n), _, List.getElem?_eq_getElem hi, g⟩
  obtain ⟨F, hF⟩ := choose_lt each
  obtain ⟨N, hN⟩ := fuel_lt (n := rows.length) (q := fun i N => (F i).2 ≤ N) (fun _ _ _ h h' => Nat.le_trans h' h) (fun i _ => ⟨_, Nat.le_refl _⟩)
  have hl : ((List.range rows.length).map fun i => (F i).1).length = rows.length := by simp
  have hget : ∀ (i : Nat) e, ((List.range rows.length).map fun i => (F i).1)[i]? = some e → i < rows.length ∧ e = (F i).1 := fun i e h => by
    have hi : i < rows.length := by have := (List.getElem?_eq_some_iff.1 h).1; simpa using this
    rw [List.getElem?_map, List.getElem?_range hi] at h
    cases h
    exact ⟨hi, rfl⟩
  refine ⟨a, cap, (List.range rows.length).map fun i => (F i).1, N, by rw [hl]; exact hcs, ⟨by rw [hl]; exact hcap _ _ _ hcs, by rw [hl]; exact hmax⟩, fun i e he => ?_, fun e he => ?_⟩
  · obtain ⟨hi, rfl⟩ := hget i e he
    obtain ⟨r', hr', g⟩ := hF i hi
    obtain ⟨h1, ⟨B, o, h2, h3⟩, _⟩ := hr i _ hr'
    exact ⟨B, o, r'.toArray, h2, by simpa using h1, fun j v hj => h3 j v (by simpa using hj), g.1.map fun v t hv => hv.up (by have := hN i hi; omega)⟩
  · obtain ⟨i, hie⟩ := List.getElem?_of_mem he
    obtain ⟨hi, rfl⟩ := hget i e hie
    obtain ⟨r', hr', g⟩ := hF i hi
    exact g.2.up (by have := hN i hi; omega)
theorem cellsC58 : Try.prog.cellsOf 58 = 7 := by kernel_rfl
set_option maxRecDepth 100000 in
theorem open_ak {H : Type} {enc : TypeId × Value → H} {W : World} {base : Nat} {spare : Nat → Bool} {held : Bool} (fuel : Nat) (cs : List Value) (x : DataW H × List MemPlace) (h : DataW.trod enc Try.prog W base spare held fuel 58 cs = some x) (hwt : ∀ y ∈ x.1.weights Try.prog 58, y ≤ reachBytes) :
    ∃ (e : Ak) (n : Nat), IsA (Is W n) cs.toArray e ∧ SmallW n e.v := by
  obtain ⟨xs, q, hk, hxy, hlen, hxl, hf⟩ := DataW.trod_struct Try.underlying58 h
  rw [cellsC58] at hlen
  obtain ⟨a0, a1, a2, a3, a4, a5, a6, rfl⟩ := lst7 hlen
  obtain ⟨y0, y1, y2, rfl⟩ := lst3 (l := xs) hxl
  have hw2 : ∀ y ∈ y2.1.weights Try.prog 27, y ≤ reachBytes := fun y hy => by
    apply hwt
    rw [hxy]
    simp only [DataW.weights, Try.underlying58]
    exact DataW.weights_mem_each (j := 2) rfl rfl y hy
  clear hwt
  have g0 := hf 0 _ rfl
  have g1 := hf 1 _ rfl
  have g2 := hf 2 _ rfl
  clear hf hxl hlen hxy h
  simp only [List.getElem?_cons_zero, List.getElem?_cons_succ] at g0 g1 g2
  obtain ⟨n0, p0, _, _⟩ := DataW.trod_int Try.underlying3 g0
  obtain ⟨n1, p1, _, _⟩ := DataW.trod_string Try.underlying9 g1
  obtain ⟨v2a, v2b, v2c, v2d, v2e, n2, m2, p2, i2, sm2⟩ := open_valW q _ _ g2 hw2
  cases p0; cases p1; cases p2
  exact ⟨⟨n0, n1, n2⟩, m2, ⟨rfl, rfl, rfl, isV5 i2 i2 rfl rfl rfl rfl rfl⟩, sm2⟩
theorem open_aks {H : Type} {enc : TypeId × Value → H} {W : World} {base : Nat} {spare : Nat → Bool} {held : Bool} (fuel : Nat) (cs : List Value) (x : DataW H × List MemPlace) (h : DataW.trod enc Try.prog W base spare held fuel 31 cs = some x) (hwt : ∀ y ∈ x.1.weights Try.prog 31, y ≤ reachBytes) :
    ∃ (a : Option Addr) (c : Nat) (l : List Ak) (n : Nat), cs = [.slice a l.length c] ∧ (l.length ≤ c ∧ l.length ≤ 9223372036854775807) ∧ LsA W (n + 1) a l ∧ ∀ e ∈ l, SmallW (n + 1) e.v := by
  have hcap : ∀ a n c, cs = [.slice a n c] → n ≤ c := fun a n c e => by
    rcases DataW.trod_slice Try.underlying31 h with ⟨h4, _⟩ | ⟨a', len, cap, elems, rest, q, hq, h4, _, _, hl, _⟩
    · rw [e] at h4; cases h4; exact Nat.le_refl _
    · rw [e] at h4; cases h4; exact hl
  obtain ⟨a, cap, q, rows, hcs, hmax, hr⟩ := open_rows Try.underlying31 cellsC58 (by decide) fuel _ _ h hwt
  have inh : Inhabited (Ak × Nat) := ⟨⟨0, ⟨#[]⟩, .mk 0 0 0 ⟨#[]⟩ []⟩, 0⟩
  have each : ∀ i, i < rows.length → ∃ u : Ak × Nat, ∃ r, rows[i]? = some r ∧ IsA (Is W u.2) r.toArray u.1 ∧ SmallW u.2 u.1.v := fun i hi => by
    obtain ⟨_, _, y, hy, hz⟩ := hr i _ (List.getElem?_eq_getElem hi)
    obtain ⟨e, n, g⟩ := open_ak _ _ _ hy hz
    exact ⟨(e, n), _, List.getElem?_eq_getElem hi, g⟩
  obtain ⟨F, hF⟩ := choose_lt each
  obtain ⟨N, hN⟩ := fuel_lt (n := rows.length) (q := fun i N => (F i).2 ≤ N) (fun _ _ _ h h' => Nat.le_trans h' h) (fun i _ => ⟨_, Nat.le_refl _⟩)
  have hl : ((List.range rows.length).map fun i => (F i).1).length = rows.length := by simp
  have hget : ∀ (i : Nat) e, ((List.range rows.length).map fun i => (F i).1)[i]? = some e → i < rows.length ∧ e = (F i).1 := fun i e h => by
    have hi : i < rows.length := by have := (List.getElem?_eq_some_iff.1 h).1; simpa using this
    rw [List.getElem?_map, List.getElem?_range hi] at h
    cases h
    exact ⟨hi, rfl⟩
  refine ⟨a, cap, (List.range rows.length).map fun i => (F i).1, N, by rw [hl]; exact hcs, ⟨by rw [hl]; exact hcap _ _ _ hcs, by rw [hl]; exact hmax⟩, fun i e he => ?_, fun e he => ?_⟩
  · obtain ⟨hi, rfl⟩ := hget i e he
    obtain ⟨r', hr', g⟩ := hF i hi
    obtain ⟨h1, ⟨B, o, h2, h3⟩, _⟩ := hr i _ hr'
    exact ⟨B, o, r'.toArray, h2, by simpa using h1, fun j v hj => h3 j v (by simpa using hj), g.1.map fun v t hv => hv.up (by have := hN i hi; omega)⟩
  · obtain ⟨i, hie⟩ := List.getElem?_of_mem he
    obtain ⟨hi, rfl⟩ := hget i e hie
    obtain ⟨r', hr', g⟩ := hF i hi
    exact g.2.up (by have := hN i hi; omega)
/-- A call over a list. -/
structure Dy where
  op : Int
  n : Int
  run : Int
  upto : Int
  flow : ByteArray
  w : Wt
  az : List An
  kz : List Ak
/-- Twenty-six cells are a call. -/
structure IsD (W : World) (n : Nat) (cs : Array Value) (d : Dy) : Prop where
  size : cs.size = 26
  c0 : cs[0]? = some (.int .i64 d.op)
  c1 : cs[1]? = some (.int .i64 d.n)
  c2 : cs[2]? = some (.int .i64 d.run)
  c3 : cs[3]? = some (.int .i64 d.upto)
  c4 : cs[4]? = some (.string d.flow)
  wt : ∃ us : Array Value, (∀ (j : Nat) v, us[j]? = some v → cs[5 + j]? = some v) ∧ IsW (Is W n) us d.w
  az : ∃ a c, cs[24]? = some (.slice a d.az.length c) ∧ LsAn W n a d.az
  kz : ∃ a c, cs[25]? = some (.slice a d.kz.length c) ∧ LsA W n a d.kz
  sw : SmX n d.w
  sa : ∀ e ∈ d.az, SmallW n e.v
  sk : ∀ e ∈ d.kz, SmallW n e.v
  la : d.az.length ≤ 9223372036854775807
  lk : d.kz.length ≤ 9223372036854775807
theorem IsW.up {W : World} {n m : Nat} {cs : Array Value} {x : Wt} (h : IsW (Is W n) cs x) (hn : n ≤ m) : IsW (Is W m) cs x := h.map fun _ _ h => h.up hn
theorem SmX.up {n m : Nat} {x : Wt} (h : SmX n x) (hn : n ≤ m) : SmX m x := ⟨h.1.up hn, h.2.up hn⟩
theorem LsW.up {W : World} {n m : Nat} {a : Option Addr} {l : List Wt} (h : LsW W n a l) (hn : n ≤ m) : LsW W m a l := fun i x hx => by
  obtain ⟨B, o, cs, h1, h2, h3⟩ := h i x hx
  exact ⟨B, o, cs, h1, h2, h3.up hn⟩
theorem LsAn.up {W : World} {n m : Nat} {a : Option Addr} {l : List An} (h : LsAn W n a l) (hn : n ≤ m) : LsAn W m a l := LsR.map (fun _ _ h => h.map fun _ _ h => h.up hn) h
theorem LsA.up {W : World} {n m : Nat} {a : Option Addr} {l : List Ak} (h : LsA W n a l) (hn : n ≤ m) : LsA W m a l := LsR.map (fun _ _ h => h.map fun _ _ h => h.up hn) h
theorem LsW.take {W : World} {n : Nat} {a : Option Addr} {l : List Wt} (h : LsW W n a l) (k : Nat) : LsW W n a (l.take k) := fun i x hx => by
  rw [List.getElem?_take] at hx
  split at hx
  · exact h i x hx
  · cases hx
theorem cellsC33 : Try.prog.cellsOf 33 = 26 := by kernel_rfl
set_option maxRecDepth 100000 in
theorem open_do {H : Type} {enc : TypeId × Value → H} {W : World} {base : Nat} {spare : Nat → Bool} {held : Bool} (fuel : Nat) (cs : List Value) (x : DataW H × List MemPlace) (h : DataW.trod enc Try.prog W base spare held fuel 33 cs = some x) (hwt : ∀ y ∈ x.1.weights Try.prog 33, y ≤ reachBytes) :
    ∃ (d : Dy) (n : Nat), IsD W n cs.toArray d := by
  obtain ⟨xs, q, hk, hxy, hlen, hxl, hf⟩ := DataW.trod_struct Try.underlying33 h
  rw [cellsC33] at hlen
  obtain ⟨a0, a1, a2, a3, a4, a5, a6, a7, a8, a9, a10, a11, a12, a13, a14, a15, a16, a17, a18, a19, a20, a21, a22, a23, a24, a25, rfl⟩ := lst26 hlen
  obtain ⟨y0, y1, y2, y3, y4, y5, y6, y7, rfl⟩ := lst8 (l := xs) hxl
  have hw5 : ∀ y ∈ y5.1.weights Try.prog 29, y ≤ reachBytes := fun y hy => by
    apply hwt
    rw [hxy]
    simp only [DataW.weights, Try.underlying33]
    exact DataW.weights_mem_each (j := 5) rfl rfl y hy
  have hw6 : ∀ y ∈ y6.1.weights Try.prog 30, y ≤ reachBytes := fun y hy => by
    apply hwt
    rw [hxy]
    simp only [DataW.weights, Try.underlying33]
    exact DataW.weights_mem_each (j := 6) rfl rfl y hy
  have hw7 : ∀ y ∈ y7.1.weights Try.prog 31, y ≤ reachBytes := fun y hy => by
    apply hwt
    rw [hxy]
    simp only [DataW.weights, Try.underlying33]
    exact DataW.weights_mem_each (j := 7) rfl rfl y hy
  clear hwt
  have g0 := hf 0 _ rfl
  have g1 := hf 1 _ rfl
  have g2 := hf 2 _ rfl
  have g3 := hf 3 _ rfl
  have g4 := hf 4 _ rfl
  have g5 := hf 5 _ rfl
  have g6 := hf 6 _ rfl
  have g7 := hf 7 _ rfl
  clear hf hxl hlen hxy h
  simp only [List.getElem?_cons_zero, List.getElem?_cons_succ] at g0 g1 g2 g3 g4 g5 g6 g7
  obtain ⟨n0, p0, _, _⟩ := DataW.trod_int Try.underlying3 g0
  obtain ⟨n1, p1, _, _⟩ := DataW.trod_int Try.underlying3 g1
  obtain ⟨n2, p2, _, _⟩ := DataW.trod_int Try.underlying3 g2
  obtain ⟨n3, p3, _, _⟩ := DataW.trod_int Try.underlying3 g3
  obtain ⟨n4, p4, _, _⟩ := DataW.trod_string Try.underlying9 g4
  obtain ⟨n5, m5, i5, sm5⟩ := open_wt q _ _ g5 hw5
  obtain ⟨ad6, cp6, n6, m6, p6, l6, i6, sm6⟩ := open_ans q _ _ g6 hw6
  obtain ⟨ad7, cp7, n7, m7, p7, l7, i7, sm7⟩ := open_aks q _ _ g7 hw7
  cases p0; cases p1; cases p2; cases p3; cases p4; cases p6; cases p7
  have h5 : m5 ≤ max m5 (max (m6 + 1) (m7 + 1)) := Nat.le_max_left _ _
  have h6 : m6 + 1 ≤ max m5 (max (m6 + 1) (m7 + 1)) := Nat.le_trans (Nat.le_max_left _ _) (Nat.le_max_right _ _)
  have h7 : m7 + 1 ≤ max m5 (max (m6 + 1) (m7 + 1)) := Nat.le_trans (Nat.le_max_right _ _) (Nat.le_max_right _ _)
  refine ⟨⟨n0, n1, n2, n3, n4, n5, n6, n7⟩, max m5 (max (m6 + 1) (m7 + 1)), { size := rfl, c0 := rfl, c1 := rfl, c2 := rfl, c3 := rfl, c4 := rfl, wt := ⟨[a5, a6, a7, a8, a9, a10, a11, a12, a13, a14, a15, a16, a17, a18, a19, a20, a21, a22, a23].toArray, fun j v hj => ?_, i5.up h5⟩, az := ⟨ad6, cp6, rfl, i6.up h6⟩, kz := ⟨ad7, cp7, rfl, i7.up h7⟩, sw := sm5.up h5, sa := fun e he => (sm6 e he).up h6, sk := fun e he => (sm7 e he).up h7, la := l6.2, lk := l7.2 }⟩
  have hjl := (Array.getElem?_eq_some_iff.1 hj).1
  simp only [List.size_toArray, List.length_cons, List.length_nil] at hjl
  have : j = 0 ∨ j = 1 ∨ j = 2 ∨ j = 3 ∨ j = 4 ∨ j = 5 ∨ j = 6 ∨ j = 7 ∨ j = 8 ∨ j = 9 ∨ j = 10 ∨ j = 11 ∨ j = 12 ∨ j = 13 ∨ j = 14 ∨ j = 15 ∨ j = 16 ∨ j = 17 ∨ j = 18 := by omega
  rcases this with rfl | rfl | rfl | rfl | rfl | rfl | rfl | rfl | rfl | rfl | rfl | rfl | rfl | rfl | rfl | rfl | rfl | rfl | rfl <;> exact hj
end Go.Proofs.Ytocjgcjechhehaa
