/- Readings; few, awake; an argument that is a history; Check, Bytes, Read -/
import Derived.Test.YtacmlholbnddpaaYA
import Derived.Deep.QuietTactic
import Derived.BigQuiet
import Derived.Test.YtacmlholbnddpaaGD
import Derived.Lib.AppendZeros
namespace Go.Proofs.Ytacmlholbnddpaa
open Go.ChangeAt Go.ChangeShapes Go.Deep Go.RowKit Go.WideShapes
theorem keepsO {W W' : World} (h : Below W.heap.size W W') : KeepsOthers W W' := ⟨h.size, fun k _ hk _ => (h.block k (Array.getElem?_eq_some_iff.1 hk).1).trans hk⟩
def ze : Ev := ⟨0, 0, 0, 0, ⟨#[]⟩, .mk 0 0 0 ⟨#[]⟩ [], 0, 0, 0⟩
def exE (ys : List Ev) (i : Nat) : Ev := ys.getD i ze
theorem find_calls (a : Option Addr) (c : Nat) (hs : List Rw) (N : Nat) (hN : hs.length = N) (hl : N ≤ 200) (kind : Int) (w : World) (hR : RowE w a hs) :
    Calls Try.prog 12 #[.slice a N c, .int .i64 kind] w fun e W' => ∃ v, e = .returned v ∧ W'.ownsRow (w.heap.size + 1) 3 1 v (fnd hs kind (List.range N)).length ((fnd hs kind (List.range N)).map (Value.int .i64)) ∧ Below w.heap.size w W' := callsIn_wide.1 (find_in 8 (by omega) a c hs N hN hl kind w hR)
/-- A slice of these numbers. -/
def Ir (w : World) (v : Value) (zs : List Int) : Prop :=
  ∃ a c, v = .slice a zs.length c ∧ ∀ (i : Nat) z, zs[i]? = some z → ∃ B o, a = some ⟨B, o, none⟩ ∧ w.cell? ⟨B, o + i, none⟩ = some (.int .i64 z)
theorem Ir.below {w w' : World} {v : Value} {zs : List Int} (h : Ir w v zs) (hb : Below w.heap.size w w') : Ir w' v zs := by
  obtain ⟨a, c, rfl, k⟩ := h
  refine ⟨a, c, rfl, fun i z hz => ?_⟩
  obtain ⟨B, o, e, hc⟩ := k i z hz
  exact ⟨B, o, e, cellB hc hb⟩
theorem ir_of {w : World} {lo : Nat} {v : Value} {zs : List Int} (h : w.ownsRow lo 3 1 v zs.length (zs.map (Value.int .i64))) : Ir w v zs := by
  have h2 := h
  obtain ⟨_, ⟨rfl, h0⟩ | ⟨g, cap, cur, rfl, _⟩⟩ := h
  · exact ⟨none, 0, by rw [h0], fun i z hz => by have := (List.getElem?_eq_some_iff.1 hz).1; omega⟩
  · refine ⟨_, cap, rfl, fun i z hz => ⟨g, 0, rfl, ?_⟩⟩
    have hi := (List.getElem?_eq_some_iff.1 hz).1
    rw [Nat.zero_add, World.ownsRow.cellAt h2 i (by omega), List.getElem?_map, hz]
    rfl
set_option maxHeartbeats 1000000 in
theorem iequal_calls (v v2 : Value) (zs : List Int) (w : World) (h : Ir w v zs) (h2 : Ir w v2 zs) (hl : zs.length ≤ 1000000000) :
    Calls Try.prog 11 #[v, v2] w fun e w' => e = .returned (.bool true) ∧ Below w.heap.size w w' := by
  obtain ⟨a, c, rfl, k⟩ := h
  obtain ⟨a2, c2, rfl, k2⟩ := h2
  have HU : Hid (∀ (i : Nat) z, zs[i]? = some z → ∃ B o, a = some ⟨B, o, none⟩ ∧ w.cell? ⟨B, o + i, none⟩ = some (.int .i64 z)) := k
  have HU2 : Hid (∀ (i : Nat) z, zs[i]? = some z → ∃ B o, a2 = some ⟨B, o, none⟩ ∧ w.cell? ⟨B, o + i, none⟩ = some (.int .i64 z)) := k2
  have hzb : (zs.length : Int) ≤ 1000000000 := by omega
  have dl : ((zs.length : Int) != (zs.length : Int)) = false := by simp
  clear k k2 hl
  go_enter Try.func11, Try.ntmps11
  go_wp2_with fail
  go_loopw [13] (fun i wr => ∃ j : Nat, j ≤ zs.length ∧ i = .int .i64 (j : Int) ∧ Hid (Below w.heap.size w wr)) (fun i _ => zs.length - (intOf i).toNat)
  case atStart => exact ⟨0, Nat.zero_le _, rfl, Below.refl _ _⟩
  case round =>
    obtain ⟨j, hj, rfl, HB⟩ := hrel
    by_cases hlt : j < zs.length
    · have hjl : (j : Int) < (zs.length : Int) := by omega
      obtain ⟨z, hzj⟩ : ∃ z, zs[j]? = some z := ⟨_, List.getElem?_eq_getElem hlt⟩
      obtain ⟨B, o, rfl, hc0⟩ := HU.out j z hzj
      obtain ⟨B', o', rfl, hd0⟩ := HU2.out j z hzj
      have hc := cellB hc0 (HB.out)
      have hd := cellB hd0 (HB.out)
      have dz : (z != z) = false := by simp
      clear hc0 hd0 hj hzj
      go_wp2_with fail
      go_quiet (fail)
      go_wp2_with fail
      refine ⟨⟨j + 1, hlt, by rw [Int.natCast_add]; rfl, HB.out.trans ((belN wr _).mono HB.out.size)⟩, ?_⟩
      simp only [intOf]
      omega
    · obtain rfl : j = zs.length := by omega
      go_wp2_with fail
      go_ret
      exact ⟨rfl, HB.out⟩
theorem zr_is (w : World) (N : Nat) : IsE w N zr ze := ⟨.mk 0 0 0 ⟨#[]⟩ [], rfl, none, 0, rfl, ⟨by decide, by decide, by decide, by decide, by decide, by decide, by decide, by decide, by decide⟩, fun i t h => by simp at h⟩
theorem choose_rows {Q : Nat → Rw → Prop} : ∀ n : Nat, (∀ i, i < n → ∃ r, Q i r) → ∃ rs : List Rw, rs.length = n ∧ ∀ i r, rs[i]? = some r → Q i r
  | 0, _ => ⟨[], rfl, fun i r h => by simp at h⟩
  | n + 1, h => by
    obtain ⟨rs, hl, hq⟩ := choose_rows n (fun i hi => h i (by omega))
    obtain ⟨r, hr⟩ := h n (by omega)
    refine ⟨rs ++ [r], by simp [hl], fun i x hx => ?_⟩
    by_cases hi : i < rs.length
    · rw [List.getElem?_append_left hi] at hx
      exact hq i x hx
    · have : i = rs.length := by have := (List.getElem?_eq_some_iff.1 hx).1; simp at this; omega
      subst this
      rw [List.getElem?_append_right (Nat.le_refl _)] at hx
      simp at hx
      subst hx
      rw [hl]
      exact hr
theorem rx_some {hs : List Rw} {i : Nat} {r : Rw} (h : hs[i]? = some r) : rx hs i = r := by unfold rx; rw [List.getD_eq_getElem?_getD, h]; rfl
theorem rx_none {hs : List Rw} {i : Nat} (h : hs.length ≤ i) : rx hs i = zr := by unfold rx; rw [List.getD_eq_getElem?_getD, List.getElem?_eq_none h]; rfl
theorem exE_some {ys : List Ev} {i : Nat} {y : Ev} (h : ys[i]? = some y) : exE ys i = y := by unfold exE; rw [List.getD_eq_getElem?_getD, h]; rfl
theorem exE_none {ys : List Ev} {i : Nat} (h : ys.length ≤ i) : exE ys i = ze := by unfold exE; rw [List.getD_eq_getElem?_getD, List.getElem?_eq_none h]; rfl
theorem few_calls (a : Option Addr) (n c : Nat) (w : World) : Calls Try.prog 4 #[.slice a n c] w fun e w' => e = .returned (.bool (decide ((n : Int) ≤ 200))) ∧ w' = w := by
  go_enter Try.func4, Try.ntmps4
  go_wp2
  go_ret
  exact ⟨rfl, rfl⟩
def r3 : Rw := ⟨3, 0, 0, 0, ⟨#[]⟩, 0, 0, 0, ⟨#[]⟩, none, 0, 0, 0, 0, 0⟩
def r4 : Rw := ⟨4, 0, 0, 0, ⟨#[]⟩, 0, 0, 0, ⟨#[]⟩, none, 0, 0, 0, 0, 0⟩
theorem cellAt40 {W : World} {g : Nat} {cur : Array Value} (e : W.heap[g]? = some (.cells cur 39 (0, 0))) (q : Nat) : W.cell? ⟨g, q, none⟩ = cur[q]? := by simp [World.cell?, e]
theorem aw_row (w : World) : RowE (w.alloc (.cells #[.int .i64 3, .int .i64 0, .int .i64 0, .int .i64 0, .string ⟨#[]⟩, .int .i64 0, .int .i64 0, .int .u64 0, .string ⟨#[]⟩, .slice none 0 0, .int .i64 0, .int .u64 0, .int .i64 0, .int .i64 4, .int .i64 0, .int .i64 0, .int .i64 0, .string ⟨#[]⟩, .int .i64 0, .int .i64 0, .int .u64 0, .string ⟨#[]⟩, .slice none 0 0, .int .i64 0, .int .u64 0, .int .i64 0] 39)) (some ⟨w.heap.size, 0, none⟩) [r3, r4] := fun i r hr => by
  have e : (w.alloc (.cells #[.int .i64 3, .int .i64 0, .int .i64 0, .int .i64 0, .string ⟨#[]⟩, .int .i64 0, .int .i64 0, .int .u64 0, .string ⟨#[]⟩, .slice none 0 0, .int .i64 0, .int .u64 0, .int .i64 0, .int .i64 4, .int .i64 0, .int .i64 0, .int .i64 0, .string ⟨#[]⟩, .int .i64 0, .int .i64 0, .int .u64 0, .string ⟨#[]⟩, .slice none 0 0, .int .i64 0, .int .u64 0, .int .i64 0] 39)).heap[w.heap.size]? = some (.cells #[.int .i64 3, .int .i64 0, .int .i64 0, .int .i64 0, .string ⟨#[]⟩, .int .i64 0, .int .i64 0, .int .u64 0, .string ⟨#[]⟩, .slice none 0 0, .int .i64 0, .int .u64 0, .int .i64 0, .int .i64 4, .int .i64 0, .int .i64 0, .int .i64 0, .string ⟨#[]⟩, .int .i64 0, .int .i64 0, .int .u64 0, .string ⟨#[]⟩, .slice none 0 0, .int .i64 0, .int .u64 0, .int .i64 0] 39 (0, 0)) := World.alloc_heap_new w _
  match i, hr with
  | 0, hr =>
    cases hr
    refine ⟨_, 0, rfl, ?_⟩
    refine ⟨?_, ?_, ?_, ?_, ?_, ?_, ?_, ?_, ?_, ?_, ?_, ?_, ?_⟩ <;> (rw [cellAt40 e]; rfl)
  | 1, hr =>
    cases hr
    refine ⟨_, 0, rfl, ?_⟩
    refine ⟨?_, ?_, ?_, ?_, ?_, ?_, ?_, ?_, ?_, ?_, ?_, ?_, ?_⟩ <;> (rw [cellAt40 e]; rfl)
  | i + 2, hr => simp at hr
theorem aw_find : fnd [r3, r4] 4 (List.range 2) = [2] := by decide +kernel
theorem two_ir (w : World) : Ir (w.alloc (.cells #[.int .i64 2] 3)) (.slice (some ⟨w.heap.size, 0, none⟩) 1 1) [2] := ⟨_, 1, rfl, fun i z hz => by
  match i, hz with
  | 0, hz => cases hz; exact ⟨_, 0, rfl, (Boxed.new w 3 (.int .i64 2)).cell⟩
  | i + 1, hz => simp at hz⟩
set_option maxHeartbeats 1000000 in
theorem awake_calls (w : World) : Calls Try.prog 6 #[] w fun e w' => e = .returned (.bool true) ∧ Below w.heap.size w w' := by
  have HF : Hid (Calls _ _ _ _ _) := find_calls (some ⟨w.heap.size, 0, none⟩) 2 [r3, r4] 2 rfl (by decide) 4 (w.alloc (.cells #[.int .i64 3, .int .i64 0, .int .i64 0, .int .i64 0, .string ⟨#[]⟩, .int .i64 0, .int .i64 0, .int .u64 0, .string ⟨#[]⟩, .slice none 0 0, .int .i64 0, .int .u64 0, .int .i64 0, .int .i64 4, .int .i64 0, .int .i64 0, .int .i64 0, .string ⟨#[]⟩, .int .i64 0, .int .i64 0, .int .u64 0, .string ⟨#[]⟩, .slice none 0 0, .int .i64 0, .int .u64 0, .int .i64 0] 39)) (aw_row w)
  rw [aw_find] at HF
  go_enter Try.func6, Try.ntmps6
  go_wp2_with fail
  refine HF.out.mono ?_
  rintro e w1 ⟨v, rfl, ho, hb⟩
  have HE : Hid (Calls Try.prog 11 #[v, .slice (some ⟨w1.heap.size, 0, none⟩) 1 1] (w1.alloc (.cells #[.int .i64 2] 3)) _) := iequal_calls v _ [2] _ ((ir_of ho).below (bel1 _ _)) (two_ir w1) (by decide)
  have HB : Hid (Below w.heap.size w (w1.alloc (.cells #[.int .i64 2] 3))) := bel2 (bel2 (bel1 _ _) hb) (bel1 _ _)
  clear ho hb HF
  go_wp2_with fail
  refine HE.out.mono ?_
  rintro e w2 ⟨rfl, hb⟩
  go_wp2_with fail
  go_ret
  exact ⟨rfl, bel2 HB.out hb⟩
end Go.Proofs.Ytacmlholbnddpaa
namespace Go.Proofs.Ytacmlholbnddpaa
open Go.ChangeAt Go.ChangeShapes Go.Deep Go.RowKit Go.WideShapes
def FitE (y : Ev) : Prop := EFit y.k y.t y.n y.d y.s ∧ PFit y.f y.c y.m
theorem ze_fit : FitE ze := ⟨⟨by decide, by decide, by decide, by decide⟩, ⟨by decide, by decide, by decide, by decide, by decide⟩⟩
/-- The cells hs are the events ys. -/
structure Hh (w : World) (N : Nat) (a : Option Addr) (hs : List Rw) (ys : List Ev) : Prop where
  len : hs.length = ys.length
  row : RowE w a hs
  isE : ∀ i, IsE w N (rx hs i) (exE ys i)
  fit : ∀ i, FitE (exE ys i)
theorem Hh.below {w w' : World} {N : Nat} {a : Option Addr} {hs : List Rw} {ys : List Ev} (h : Hh w N a hs ys) (hb : Below w.heap.size w w') : Hh w' N a hs ys := ⟨h.len, h.row.below hb, fun i => (h.isE i).below hb, h.fit⟩
set_option maxRecDepth 100000 in
theorem open_evs {H : Type} {enc : TypeId × Value → H} {W : World} {base : Nat} {spare : Nat → Bool} {held : Bool} (fuel : Nat) (cs : List Value) (x : DataW H × List MemPlace) (h : DataW.trod enc Try.prog W base spare held fuel 22 cs = some x) :
    ∃ (a : Option Addr) (n c : Nat) (hs : List Rw) (ys : List Ev) (NN : Nat), cs = [.slice a n c] ∧ n ≤ c ∧ hs.length = n ∧ Hh W NN a hs ys := by
  rcases DataW.trod_slice Try.underlying22 h with ⟨h4, _⟩ | ⟨a, len, cap, elems, rest, q, hq, h4, _, _, hl, hm, he, hx, _, _⟩
  · exact ⟨none, 0, 0, [], [], 0, h4, Nat.le_refl _, rfl, ⟨rfl, fun i r hr => by simp at hr, fun i => by rw [rx_none (by simp), exE_none (by simp)]; exact zr_is W 0, fun i => by rw [exE_none (by simp)]; exact ze_fit⟩⟩
  · have each : ∀ i, i < len → ∃ r : Rw × Tv × Nat, ∃ B o, a = ⟨B, o, none⟩ ∧ AtR W B (o + i * 13) r.1 ∧ Is W (r.2.2 + 1) r.1.vv r.2.1 ∧ FitE (r.1.ev r.2.1) := by
      intro i hi
      have key := hx i hi
      rw [List.getElem?_eq_getElem (by omega)] at key
      obtain ⟨cs', k1, k2⟩ := Option.bind_eq_some_iff.1 key
      obtain ⟨ek, et, en, ed, es, vk, vx, vb, vs, la, ll, lc, ef, ec, em, nn, tv, rfl, hi', hf1, hf2⟩ := open_ev q cs' _ k2
      rw [cells29] at k1
      obtain ⟨_, _, hcell⟩ := World.cells?_some k1
      have hsp : a.spot = none := by
        have key0 := hx 0 (by omega)
        rw [List.getElem?_eq_getElem (by omega)] at key0
        obtain ⟨cs0, k10, k20⟩ := Option.bind_eq_some_iff.1 key0
        obtain ⟨_, _, _, _, _, _, _, _, _, _, _, _, _, _, _, _, _, rfl, _⟩ := open_ev q cs0 _ k20
        rw [cells29] at k10
        obtain ⟨_, _, hcell0⟩ := World.cells?_some k10
        have q0 := hcell0 0 (by simp)
        rw [add_add] at q0
        have := plain_addr q0
        simpa [Addr.add] using this
      obtain ⟨B, o, sp⟩ := a
      cases hsp
      have ad : ∀ r, ((⟨B, o, none⟩ : Addr).add (i * 13)).add r = ⟨B, o + i * 13 + r, none⟩ := by
        intro r
        rw [addp, addp]
      have p0 := hcell 0 (by simp)
      have p1 := hcell 1 (by simp)
      have p2 := hcell 2 (by simp)
      have p3 := hcell 3 (by simp)
      have p4 := hcell 4 (by simp)
      have p5 := hcell 5 (by simp)
      have p6 := hcell 6 (by simp)
      have p7 := hcell 7 (by simp)
      have p8 := hcell 8 (by simp)
      have p9 := hcell 9 (by simp)
      have p10 := hcell 10 (by simp)
      have p11 := hcell 11 (by simp)
      have p12 := hcell 12 (by simp)
      rw [ad] at p0 p1 p2 p3 p4 p5 p6 p7 p8 p9 p10 p11 p12
      exact ⟨(⟨ek, et, en, ed, es, vk, vx, vb, vs, la, ll, lc, ef, ec, em⟩, tv, nn), B, o, rfl, ⟨by simpa using p0, by simpa using p1, by simpa using p2, by simpa using p3, by simpa using p4, by simpa using p5, by simpa using p6, by simpa using p7, by simpa using p8, by simpa using p9, by simpa using p10, by simpa using p11, by simpa using p12⟩, hi', hf1, hf2⟩
    have inh : Inhabited (Rw × Tv × Nat) := ⟨zr, .mk 0 0 0 ⟨#[]⟩ [], 0⟩
    obtain ⟨F, hF⟩ := choose_lt each
    obtain ⟨N, hN⟩ := fuel_lt (n := len) (q := fun i N => (F i).2.2 ≤ N) (fun _ _ _ h h' => Nat.le_trans h' h) (fun i _ => ⟨_, Nat.le_refl _⟩)
    have gh : ∀ i, i < len → ((List.range len).map fun i => (F i).1)[i]? = some (F i).1 := fun i hi => by rw [List.getElem?_map, List.getElem?_range hi]; rfl
    have gy : ∀ i, i < len → ((List.range len).map fun i => (F i).1.ev (F i).2.1)[i]? = some ((F i).1.ev (F i).2.1) := fun i hi => by rw [List.getElem?_map, List.getElem?_range hi]; rfl
    refine ⟨some a, len, cap, (List.range len).map fun i => (F i).1, (List.range len).map fun i => (F i).1.ev (F i).2.1, N, h4, hl, by simp, ⟨by simp, fun i r hr => ?_, fun i => ?_, fun i => ?_⟩⟩
    · have hi : i < len := by have := (List.getElem?_eq_some_iff.1 hr).1; simpa using this
      rw [gh i hi] at hr
      cases hr
      obtain ⟨B, o, ha, h5, _⟩ := hF i hi
      exact ⟨B, o, by rw [ha], h5⟩
    · by_cases hi : i < len
      · obtain ⟨B, o, ha, h5, hI, _⟩ := hF i hi
        rw [rx_some (gh i hi), exE_some (gy i hi)]
        exact ⟨_, rfl, hI.up (by have := hN i hi; omega)⟩
      · rw [rx_none (by simp; omega), exE_none (by simp; omega)]
        exact zr_is W N
    · by_cases hi : i < len
      · obtain ⟨B, o, ha, h5, _, hS⟩ := hF i hi
        rw [exE_some (gy i hi)]
        exact hS
      · rw [exE_none (by simp; omega)]
        exact ze_fit
end Go.Proofs.Ytacmlholbnddpaa
namespace Go.Proofs.Ytacmlholbnddpaa
open Go.ChangeAt Go.ChangeShapes Go.Deep Go.RowKit Go.WideShapes
theorem ck_is (N : Nat) (r : Rw) (y : Ev) (w : World) (h : IsE w N r y) (hf : FitE y) : Calls Try.prog 10 #[.agg #[.int .i64 r.k, .int .i64 r.t, .int .i64 r.n, .int .i64 r.d, .string r.s, .int .i64 r.vk, .int .i64 r.vx, .int .u64 r.vb, .string r.vs, .slice r.la r.ll r.lc, .int .i64 r.f, .int .u64 (r.c : Int), .int .i64 r.m]] w (CkP (MayE (N + 1) y) w) := by
  obtain ⟨tv, rfl, hi⟩ := h
  exact evcheck_calls N tv r.k r.t r.n r.d r.s r.vk r.vx r.vb r.vs r.la r.ll r.lc r.f r.c r.m hf.2.c1 w hi
set_option maxHeartbeats 4000000 in
set_option maxRecDepth 100000 in
theorem bcheck_calls (N : Nat) (a : Option Addr) (c n : Nat) (hs : List Rw) (ys : List Ev) (hn : hs.length = n) (w : World) (hH : Hh w N a hs ys) :
    Calls Try.prog 5 #[.slice a n c] w fun e w' => ∃ r : Int, e = .returned (.int .i64 r) ∧ (r = 0 → n ≤ 120 ∧ ∀ i, i < n → MayE (N + 1) (exE ys i)) ∧ Below w.heap.size w w' := by
  have hmix : Try.prog.follows .mixedOrders = true := by kernel_rfl
  have HH : Hid (Hh w N a hs ys) := hH
  have HN : Hid (hs.length = n) := hn
  clear hH hn
  by_cases h120 : n ≤ 120
  · have d0 : decide ((120 : Int) < (n : Int)) = false := decide_eq_false (by omega)
    have HL : Hid (n ≤ 120) := h120
    clear h120
    go_enter Try.func5, Try.ntmps5
    go_wp2_with fail
    go_loopw [3, 5, 11] (fun lt _ i wr => ∃ (j : Nat) (L : Int), j ≤ n ∧ lt = .int .i64 L ∧ i = .int .i64 (j : Int) ∧ Hid (Below w.heap.size w wr) ∧ Hid (∀ i, i < j → MayE (N + 1) (exE ys i))) (fun _ _ i _ => n - (intOf i).toNat)
    case atStart => exact ⟨0, 0, Nat.zero_le _, rfl, rfl, Below.refl _ _, fun i hi => absurd hi (by omega)⟩
    case round =>
      obtain ⟨j, L, hj, rfl, rfl, HB, HM⟩ := hrel
      by_cases hlt : j < n
      · obtain ⟨r, hr⟩ : ∃ r, hs[j]? = some r := ⟨_, List.getElem?_eq_getElem (by rw [HN.out]; exact hlt)⟩
        obtain ⟨B, o, rfl, hat⟩ := HH.out.row j r hr
        obtain ⟨e0, e1, e2, e3, e4, e5, e6, e7, e8, e9, e10, e11, e12⟩ := hat.below HB.out
        have z1 := (HH.out.isE j).below HB.out
        rw [rx_some hr] at z1
        have KS : Hid (∀ W, Below wr.heap.size wr W → Calls Try.prog 10 #[.agg #[.int .i64 r.k, .int .i64 r.t, .int .i64 r.n, .int .i64 r.d, .string r.s, .int .i64 r.vk, .int .i64 r.vx, .int .u64 r.vb, .string r.vs, .slice r.la r.ll r.lc, .int .i64 r.f, .int .u64 (r.c : Int), .int .i64 r.m]] W (CkP (MayE (N + 1) (exE ys j)) W)) := fun W hW => ck_is N r (exE ys j) W (z1.below hW) (HH.out.fit j)
        have HX : Hid (Bx13 (wr.alloc (.cells #[.int .i64 r.k, .int .i64 r.t, .int .i64 r.n, .int .i64 r.d, .string r.s, .int .i64 r.vk, .int .i64 r.vx, .int .u64 r.vb, .string r.vs, .slice r.la r.ll r.lc, .int .i64 r.f, .int .u64 (r.c : Int), .int .i64 r.m] 39)) wr.heap.size r) := Bx13.new wr r
        obtain ⟨q0, q1, q2, q3, q4, q5, q6, q7, q8, q9, q10, q11, q12⟩ := HX.out.at
        have HW : Hid (wrap64 ((j : Int) + 1) = ((j + 1 : Nat) : Int)) := wr1 hlt (by have := HL.out; omega)
        have hjl : (j : Int) < (n : Int) := by omega
        clear hat z1 hr
        by_cases hm : MayE (N + 1) (exE ys j)
        · have KT : Hid (∀ W, Below wr.heap.size wr W → Calls Try.prog 10 #[.agg #[.int .i64 r.k, .int .i64 r.t, .int .i64 r.n, .int .i64 r.d, .string r.s, .int .i64 r.vk, .int .i64 r.vx, .int .u64 r.vb, .string r.vs, .slice r.la r.ll r.lc, .int .i64 r.f, .int .u64 (r.c : Int), .int .i64 r.m]] W fun e w' => e = .returned (.int .i64 0) ∧ Below W.heap.size W w') := fun W hW => (KS.out W hW).mono (fun e w' ⟨r, h1, h2, _, h4⟩ => ⟨by rw [h1, h2 hm], h4⟩)
          have HM1 : Hid (∀ i, i < j + 1 → MayE (N + 1) (exE ys i)) := fun i hi => by
            by_cases e : i = j
            · subst e
              exact hm
            · exact HM.out i (by omega)
          clear hm KS HM
          go_wp2_with fail
          clear e0 e1 e2 e3 e4 e5 e6 e7 e8 e9 e10 e11 e12
          refine (KT.out _ (bel1 wr _)).mono ?_
          rintro e w3 ⟨rfl, hb3⟩
          obtain ⟨p0, p1, p2, p3, p4, p5, p6, p7, p8, p9, p10, p11, p12⟩ := AtR.below HX.out.at hb3
          simp only [Nat.zero_add] at p0 p1 p2 p3 p4 p5 p6 p7 p8 p9 p10 p11 p12
          have HB3 : Hid (Below w.heap.size w w3) := bel2 HB.out (bel2 (bel1 wr _) hb3)
          clear hb3 q0 q1 q2 q3 q4 q5 q6 q7 q8 q9 q10 q11 q12
          clear p0 p2 p3 p4 p5 p6 p7 p8 p9 p10 p11 p12
          by_cases hd : r.t < L
          · have hd' : decide (r.t < L) = true := decide_eq_true hd
            clear hd
            go_wp2_with fail
            go_ret
            exact ⟨1, rfl, fun h => absurd h (by decide), HB3.out⟩
          · have hd' : decide (r.t < L) = false := decide_eq_false hd
            clear hd
            skip
            go_wp2_with fail
            exact ⟨⟨j + 1, r.t, hlt, rfl, by rw [HW.out], HB3, HM1⟩, meas hlt HW.out⟩
        · have KT : Hid (∀ W, Below wr.heap.size wr W → Calls Try.prog 10 #[.agg #[.int .i64 r.k, .int .i64 r.t, .int .i64 r.n, .int .i64 r.d, .string r.s, .int .i64 r.vk, .int .i64 r.vx, .int .u64 r.vb, .string r.vs, .slice r.la r.ll r.lc, .int .i64 r.f, .int .u64 (r.c : Int), .int .i64 r.m]] W fun e w' => e = .returned (.int .i64 1) ∧ Below W.heap.size W w') := fun W hW => (KS.out W hW).mono (fun e w' ⟨r, h1, _, h3, h4⟩ => ⟨by rw [h1, h3 hm], h4⟩)
          clear hm KS HM
          go_wp2_with fail
          clear e0 e1 e2 e3 e4 e5 e6 e7 e8 e9 e10 e11 e12
          refine (KT.out _ (bel1 wr _)).mono ?_
          rintro e w3 ⟨rfl, hb3⟩
          obtain ⟨p0, p1, p2, p3, p4, p5, p6, p7, p8, p9, p10, p11, p12⟩ := AtR.below HX.out.at hb3
          simp only [Nat.zero_add] at p0 p1 p2 p3 p4 p5 p6 p7 p8 p9 p10 p11 p12
          have HB3 : Hid (Below w.heap.size w w3) := bel2 HB.out (bel2 (bel1 wr _) hb3)
          clear hb3 q0 q1 q2 q3 q4 q5 q6 q7 q8 q9 q10 q11 q12
          clear p0 p2 p3 p4 p5 p6 p7 p8 p9 p10 p11 p12
          go_wp2_with fail
          go_ret
          exact ⟨1, rfl, fun h => absurd h (by decide), HB3.out⟩
      · obtain rfl : j = n := by omega
        go_wp2_with fail
        go_ret
        exact ⟨0, rfl, fun _ => ⟨HL.out, HM.out⟩, HB.out⟩
  · have d0 : decide ((120 : Int) < (n : Int)) = true := decide_eq_true (by omega)
    go_enter Try.func5, Try.ntmps5
    go_wp2_with fail
    go_ret
    exact ⟨7, rfl, fun h => absurd h (by decide), Below.refl _ _⟩
end Go.Proofs.Ytacmlholbnddpaa
namespace Go.Proofs.Ytacmlholbnddpaa
open Go.ChangeAt Go.ChangeShapes Go.Deep Go.RowKit Go.WideShapes
theorem zc_mem {z : Array Value} {n : Nat} {x : Value} (h : x ∈ (Builtin.zeroCells z n).toList) : ∃ i : Nat, i < z.size ∧ x = z[i]! := by
  unfold Builtin.zeroCells at h
  rw [Array.mem_toList_iff, Array.mem_map] at h
  obtain ⟨i, hi, rfl⟩ := h
  refine ⟨_, Nat.mod_lt _ ?_, rfl⟩
  rcases Nat.eq_zero_or_pos z.size with e | e
  · rw [e] at hi
    simp at hi
  · exact e
theorem app2 {lo src k size bytes : Nat} {W : World} {u z : Value} {cells news : List Value} {t e : TypeId} {i0 : TypeInfo} (ht : Try.prog.underlying t = some (.slice e)) (hi : Try.prog.info? e = some i0) (hz0 : i0.zero = some z) (hz1 : i0.size = size) (hz2 : i0.bytes = bytes) (hzc : z.cells.size = size) (hsz : 0 < size) (hown : W.ownsRow lo e size u k cells) (hl : news.length = size) (hnews : ∀ j z, news[j]? = some z → W.cell? ((⟨src, 0, none⟩ : Addr).add j) = some z) (hs1 : ∀ z ∈ news, z.oneCell' = true) (hk : k ≤ 4611686018427387904) (hby : (k + 1) * bytes ≤ 140737488355328) (hB : lo ≤ W.heap.size) :
    ∃ u' w', (∀ ty, (Builtin.append_ #[t, t] ty #[u, .slice (some ⟨src, 0, none⟩) 1 1]).run Try.prog W = .ok u' w') ∧ w'.ownsRow lo e size u' (k + 1) (cells ++ news) ∧ Below lo W w' ∧ (∀ B, B < W.heap.size → u.ownBlock ≠ some B → w'.heap[B]? = W.heap[B]?) ∧ (u'.ownBlock = u.ownBlock ∨ u'.ownBlock = some W.heap.size) ∧ (∀ Q : Value → Prop, (∀ x ∈ news, Q x) → (∀ x ∈ cells, Q x) → (∀ i : Nat, i < z.cells.size → Q z.cells[i]!) → (∀ B cur, u.ownBlock = some B → W.heap[B]? = some (.cells cur e (0, 0)) → ∀ x ∈ cur.toList, Q x) → ∀ B, u'.ownBlock = some B → ∃ cur, w'.heap[B]? = some (.cells cur e (0, 0)) ∧ ∀ x ∈ cur.toList, Q x) := by
  have hb1 := hby
  have key : ∀ ty, ∃ v' w', (Builtin.append_ #[t, t] ty #[u, .slice (some ⟨src, 0, none⟩) 1 1]).run Try.prog W = .ok v' w' ∧ w'.ownsRow lo e size v' (k + 1) (cells ++ news) ∧ W.grownBy w' u.ownBlock ∧ _ := fun ty =>
    run_append_own (P := Try.prog) (w := W) lo t ty e i0 z size bytes ht hi hz0 hz1 hz2 hzc hsz u k cells hown ⟨src, 0, none⟩ 1 1 news (by rw [hl, Nat.one_mul]) hnews hs1 (by unfold maxLen; omega) hby hB
  obtain ⟨u', w', hr, hown', hgrow, _⟩ := key t
  have hblk : (u'.ownBlock = u.ownBlock ∨ u'.ownBlock = some W.heap.size) ∧ (∀ Q : Value → Prop, (∀ x ∈ news, Q x) → (∀ x ∈ cells, Q x) → (∀ i : Nat, i < z.cells.size → Q z.cells[i]!) → (∀ B cur, u.ownBlock = some B → W.heap[B]? = some (.cells cur e (0, 0)) → ∀ x ∈ cur.toList, Q x) → ∀ B, u'.ownBlock = some B → ∃ cur, w'.heap[B]? = some (.cells cur e (0, 0)) ∧ ∀ x ∈ cur.toList, Q x) := by
    have hown2 := hown
    obtain ⟨hcl, ⟨rfl, hn0⟩ | ⟨g, cap, cur, rfl, _, hg, hle, _, hcs, _⟩⟩ := hown2
    · have h2 := run_append_nil (P := Try.prog) W t t e i0 z ht hi hz0 ⟨src, 0, none⟩ 1 1 news (by rw [hz1, hl, Nat.one_mul]) hnews (by omega) (by omega) (by rw [hz2]; have := Nat.le_mul_of_pos_left bytes (show 0 < k + 1 by omega); omega)
      have e := hr.symm.trans h2
      cases e
      exact ⟨.inr rfl, fun Q q1 _ q3 _ B hB2 => by
        cases hB2
        refine ⟨_, World.alloc_heap_new W.drew _, fun x hx => ?_⟩
        rw [Array.toList_append, List.mem_append] at hx
        rcases hx with hx | hx
        · exact q1 x (by simpa using hx)
        · obtain ⟨i, hi2, rfl⟩ := zc_mem hx
          exact q3 i hi2⟩
    · by_cases hroom : k + 1 ≤ cap
      · have hmul : (k + 1) * size ≤ cap * size := Nat.mul_le_mul_right _ hroom
        have h2 := run_append_room (P := Try.prog) W t t e i0 ht hi g k cap cur hg ⟨src, 0, none⟩ 1 1 news (by rw [hz1, hl, Nat.one_mul]) hnews hs1 hroom (by rw [hz1, hcs, hl]; rw [Nat.add_mul, Nat.one_mul] at hmul; exact hmul)
        have e := hr.symm.trans h2
        cases e
        exact ⟨.inl rfl, fun Q q1 _ _ q4 B hB2 => by
          cases hB2
          refine ⟨_, setRow_heap _ _ _ _ _ _ hg, fun x hx => ?_⟩
          simp only [List.append_assoc, List.mem_append] at hx
          rcases hx with hx | hx | hx
          · exact q4 g cur rfl hg x (List.mem_of_mem_take hx)
          · exact q1 x hx
          · exact q4 g cur rfl hg x (List.mem_of_mem_drop hx)⟩
      · have holds : ∀ j z, cells[j]? = some z → W.cell? ((⟨g, 0, none⟩ : Addr).add j) = some z := hown.cells (g := g) rfl
        have h2 := run_append_grow (P := Try.prog) W t t e i0 z ht hi hz0 ⟨g, 0, none⟩ k cap cells (by rw [hz1]; exact hcl) holds ⟨src, 0, none⟩ 1 1 news (by rw [hz1, hl, Nat.one_mul]) hnews (by omega) (by omega) (growslice_fits (by omega) (by rw [hz2]; exact hby))
        have e := hr.symm.trans h2
        cases e
        exact ⟨.inr rfl, fun Q q1 q2 q3 _ B hB2 => by
          cases hB2
          refine ⟨_, World.alloc_heap_new W.drew _, fun x hx => ?_⟩
          rw [Array.toList_append, Array.toList_append, List.mem_append, List.mem_append] at hx
          rcases hx with (hx | hx) | hx
          · exact q2 x (by simpa using hx)
          · exact q1 x (by simpa using hx)
          · obtain ⟨i, hi2, rfl⟩ := zc_mem hx
            exact q3 i hi2⟩
  exact ⟨u', w', fun ty => hr, hown', (Below.refl _ W).grown hgrow hB (fun k hk2 => (World.ownsRow.lt hown k hk2).1), fun B hB2 hne => hgrow.block B hB2 (fun e => hne e.symm), hblk.1, hblk.2⟩

def isSl (c : Value) : Prop := ∃ a l k, c = .slice a l k
/-- All cells of the list's block are slices. -/
def AllSl (w : World) (u : Value) : Prop := ∀ B, u.ownBlock = some B → ∃ cur, w.heap[B]? = some (.cells cur 44 (0, 0)) ∧ ∀ x ∈ cur.toList, isSl x
theorem hb_keep {w w' : World} {u v : Value} {l : List UInt8} (h : Lib.HoldsBytes w v l) (hA : AllSl w u) (hk : ∀ B, B < w.heap.size → u.ownBlock ≠ some B → w'.heap[B]? = w.heap[B]?) : Lib.HoldsBytes w' v l := by
  obtain ⟨p, cap, rfl, hp, hc⟩ := h
  refine ⟨p, cap, rfl, hp, fun a ha i x hx => ?_⟩
  have h1 := hc a ha i x hx
  have hlt := World.block_lt_of_cell? w _ h1
  by_cases hu : u.ownBlock = some (a.add i).block
  · exfalso
    obtain ⟨cur, hg, hall⟩ := hA _ hu
    have hsp := plain_addr h1
    generalize a.add i = A at h1 hg hsp
    obtain ⟨B, q, s⟩ := A
    cases hsp
    have h2 : cur[q]? = some (.int .u8 (x.toNat : Int)) := by simpa [World.cell?, hg] using h1
    obtain ⟨_, _, _, e⟩ := hall _ (Array.mem_toList_iff.2 (Array.mem_of_getElem? h2))
    cases e
  · rw [World.cell?_of_block (hk _ hlt hu)]
    exact h1
theorem info44 : (Try.prog.info? 44).map (fun i => (i.zero, i.size, i.bytes)) = some (some (.slice none 0 0), 1, 24) := by kernel_rfl
/-- A list of these bytes, of the call's own, in a block from lo on. -/
def Gb (lo : Nat) (w : World) (u : Value) (ls : List (List UInt8)) : Prop :=
  ∃ cells, w.ownsRow lo 44 1 u ls.length cells ∧ (∀ x ∈ cells, isSl x) ∧ AllSl w u ∧ ∀ (i : Nat) l, ls[i]? = some l → ∃ v, cells[i]? = some v ∧ Lib.HoldsBytes w v l
theorem Gb.nil (lo : Nat) (w : World) : Gb lo w (.slice none 0 0) [] := ⟨[], World.ownsRow_nil _ _ _ _, fun x hx => by simp at hx, fun B (hB : (none : Option Nat) = some B) => (by cases hB), fun i l h => (by simp at h)⟩
theorem rowb {lo k : Nat} {w w' : World} {u : Value} {cells : List Value} {e : TypeId} {size : Nat} (h : w.ownsRow lo e size u k cells) (hk : ∀ B, u.ownBlock = some B → w'.heap[B]? = w.heap[B]?) : w'.ownsRow lo e size u k cells := by
  obtain ⟨h1, h2 | ⟨g, cap, cur, rfl, hB, hg, r⟩⟩ := h
  · exact ⟨h1, .inl h2⟩
  · exact ⟨h1, .inr ⟨g, cap, cur, rfl, hB, by rw [hk g rfl]; exact hg, r⟩⟩
theorem hb_below {w w' : World} {v : Value} {l : List UInt8} (h : Lib.HoldsBytes w v l) (hb : Below w.heap.size w w') : Lib.HoldsBytes w' v l := by
  obtain ⟨p, cap, rfl, hp, hc⟩ := h
  exact ⟨p, cap, rfl, hp, fun a ha i x hx => cellB (hc a ha i x hx) hb⟩
theorem Gb.below {lo : Nat} {w w' : World} {u : Value} {ls : List (List UInt8)} (h : Gb lo w u ls) (hb : Below w.heap.size w w') : Gb lo w' u ls := by
  obtain ⟨cells, ho, hs, hA, hc⟩ := h
  have hk : ∀ B, u.ownBlock = some B → w'.heap[B]? = w.heap[B]? := fun B hB => hb.block B (World.ownsRow.lt ho B hB).2
  refine ⟨cells, rowb ho hk, hs, fun B hB => ?_, fun i l hl => ?_⟩
  · obtain ⟨cur, hg, hall⟩ := hA B hB
    exact ⟨cur, by rw [hk B hB]; exact hg, hall⟩
  · obtain ⟨v, hv, hh⟩ := hc i l hl
    exact ⟨v, hv, hb_below hh hb⟩
theorem Gb.app {lo src : Nat} {W : World} {u v : Value} {ls : List (List UInt8)} {l : List UInt8} (h : Gb lo W u ls) (hv : W.cell? ⟨src, 0, none⟩ = some v) (hh : Lib.HoldsBytes W v l) (hB : lo ≤ W.heap.size) (hk : ls.length ≤ 1000) :
    ∃ (a : Option Addr) (c : Nat) (w' : World), (∀ ty, (Builtin.append_ #[29, 29] ty #[u, .slice (some ⟨src, 0, none⟩) 1 1]).run Try.prog W = .ok (.slice a (ls.length + 1) c) w') ∧ Gb lo w' (.slice a (ls.length + 1) c) (ls ++ [l]) ∧ Below lo W w' := by
  obtain ⟨cells, ho, hs, hA, hc⟩ := h
  obtain ⟨i0, hi0, hz0, hz1, hz2⟩ := info_parts info44
  have hsl : isSl v := by obtain ⟨p, cap, rfl, _⟩ := hh; exact ⟨_, _, _, rfl⟩
  obtain ⟨u', w2, hr, hown', hbl, hkeep, hblk, hQ⟩ := app2 (lo := lo) (src := src) (k := ls.length) (t := 29) (news := [v]) Try.underlying29 hi0 hz0 hz1 hz2 rfl (by decide) ho rfl (fun j z hz => by
    match j, hz with
    | 0, hz => cases hz; rw [addp]; exact hv
    | j + 1, hz => simp at hz) (fun z hz => by
      obtain ⟨_, _, _, rfl⟩ := hsl
      rw [List.mem_singleton] at hz
      subst hz
      rfl) (by omega) (by omega) hB
  obtain ⟨g', cap', rfl⟩ := ownsRow_succ hown'
  have hcl : cells.length = ls.length := by have := ho.1; omega
  have hAll : AllSl w2 (.slice (some ⟨g', 0, none⟩) (ls.length + 1) cap') := fun B hB2 => hQ isSl (fun x hx => by rw [List.mem_singleton] at hx; subst hx; exact hsl) hs (fun i hi2 => by
    match i, hi2 with
    | 0, _ => exact ⟨none, 0, 0, rfl⟩
    | i + 1, h => exact absurd h (by show ¬ i + 1 < 1; omega)) (fun B cur hB3 hg => by
      obtain ⟨cur', hg', hall⟩ := hA B hB3
      rw [hg] at hg'
      cases hg'
      exact hall) B hB2
  refine ⟨_, _, w2, hr, ⟨cells ++ [v], by rw [List.length_append]; exact hown', fun x hx => ?_, hAll, fun i z hz => ?_⟩, hbl⟩
  · rcases List.mem_append.1 hx with hx | hx
    · exact hs x hx
    · rw [List.mem_singleton] at hx
      subst hx
      exact hsl
  · by_cases hlt : i < ls.length
    · rw [List.getElem?_append_left hlt] at hz
      obtain ⟨y, hy, hhy⟩ := hc i z hz
      exact ⟨y, by rw [List.getElem?_append_left (by omega)]; exact hy, hb_keep hhy hA hkeep⟩
    · have hi2 : i = ls.length := by
        have := (List.getElem?_eq_some_iff.1 hz).1
        simp at this
        omega
      subst hi2
      rw [List.getElem?_append_right (Nat.le_refl _)] at hz
      simp at hz
      subst hz
      exact ⟨v, by rw [List.getElem?_append_right (by omega), hcl, Nat.sub_self]; rfl, hb_keep hh hA hkeep⟩
theorem Gb.read {lo : Nat} {w : World} {u : Value} {ls : List (List UInt8)} (h : Gb lo w u ls) : ∃ a c, u = .slice a ls.length c ∧ ∀ (i : Nat) l, ls[i]? = some l → ∃ B o p cap, a = some ⟨B, o, none⟩ ∧ w.cell? ⟨B, o + i, none⟩ = some (.slice p l.length cap) ∧ Lib.HoldsBytes w (.slice p l.length cap) l := by
  obtain ⟨cells, ho, _, _, hc⟩ := h
  have ho2 := ho
  obtain ⟨_, ⟨rfl, h0⟩ | ⟨g, cap, cur, rfl, _⟩⟩ := ho
  · exact ⟨none, 0, by rw [h0], fun i l hl => by have := (List.getElem?_eq_some_iff.1 hl).1; omega⟩
  · refine ⟨_, cap, rfl, fun i l hl => ?_⟩
    obtain ⟨v, hv, hh⟩ := hc i l hl
    obtain ⟨p, cp, rfl⟩ := holds_slice hh
    have hi := (List.getElem?_eq_some_iff.1 hl).1
    exact ⟨g, 0, p, cp, rfl, by rw [Nat.zero_add, World.ownsRow.cellAt ho2 i (by omega)]; exact hv, hh⟩
end Go.Proofs.Ytacmlholbnddpaa
namespace Go.Proofs.Ytacmlholbnddpaa
open Go.ChangeAt Go.ChangeShapes Go.Deep Go.RowKit Go.WideShapes
theorem en_is (N : Nat) (r : Rw) (y : Ev) (w : World) (h : IsE w N r y) (hf : FitE y) (hm : MayE (N + 1) y) : Calls Try.prog 14 #[.agg #[.int .i64 r.k, .int .i64 r.t, .int .i64 r.n, .int .i64 r.d, .string r.s, .int .i64 r.vk, .int .i64 r.vx, .int .u64 r.vb, .string r.vs, .slice r.la r.ll r.lc, .int .i64 r.f, .int .u64 (r.c : Int), .int .i64 r.m]] w (EnP (encE (N + 1) y) w) := by
  obtain ⟨tv, rfl, hi⟩ := h
  exact encode_may N tv r.k r.t r.n r.d r.s r.vk r.vx r.vb r.vs r.la r.ll r.lc r.f r.c r.m hf.1 hf.2 w hi hm
/-- The bytes of the first j events. -/
def blE (N : Nat) (ys : List Ev) (j : Nat) : List (List UInt8) := (List.range j).map fun i => encE (N + 1) (exE ys i)
theorem blE_len (N : Nat) (ys : List Ev) (j : Nat) : (blE N ys j).length = j := by unfold blE; simp
theorem blE_succ (N : Nat) (ys : List Ev) (j : Nat) : blE N ys (j + 1) = blE N ys j ++ [encE (N + 1) (exE ys j)] := by unfold blE; rw [List.range_succ, List.map_append]; rfl
set_option maxHeartbeats 4000000 in
set_option maxRecDepth 100000 in
theorem bbytes_calls (N : Nat) (a : Option Addr) (c n : Nat) (hs : List Rw) (ys : List Ev) (hn : hs.length = n) (hl : n ≤ 120) (hm : ∀ i, i < n → MayE (N + 1) (exE ys i)) (w : World) (hH : Hh w N a hs ys) :
    Calls Try.prog 8 #[.slice a n c] w fun e w' => ∃ v, e = .returned v ∧ Gb w.heap.size w' v (blE N ys n) ∧ Below w.heap.size w w' := by
  have HH : Hid (Hh w N a hs ys) := hH
  have HN : Hid (hs.length = n) := hn
  have HL : Hid (n ≤ 120) := hl
  have HM : Hid (∀ i, i < n → MayE (N + 1) (exE ys i)) := hm
  clear hH hn hl hm
  go_enter Try.func8, Try.ntmps8
  go_wp2_with fail
  go_loopw [3, 5, 6, 7, 10] (fun u _ _ _ i wr => ∃ j : Nat, j ≤ n ∧ i = .int .i64 (j : Int) ∧ Hid (Gb w.heap.size wr u (blE N ys j)) ∧ Hid (Below w.heap.size w wr)) (fun _ _ _ _ i _ => n - (intOf i).toNat)
  case atStart => exact ⟨0, Nat.zero_le _, rfl, Gb.nil _ _, Below.refl _ _⟩
  case round =>
    obtain ⟨j, hj, rfl, HG, HB⟩ := hrel
    by_cases hlt : j < n
    · obtain ⟨r, hr⟩ : ∃ r, hs[j]? = some r := ⟨_, List.getElem?_eq_getElem (by rw [HN.out]; exact hlt)⟩
      obtain ⟨B, o, rfl, hat⟩ := HH.out.row j r hr
      obtain ⟨e0, e1, e2, e3, e4, e5, e6, e7, e8, e9, e10, e11, e12⟩ := hat.below HB.out
      have z1 := (HH.out.isE j).below HB.out
      rw [rx_some hr] at z1
      have C0 : Hid (∀ W, Below wr.heap.size wr W → Calls Try.prog 14 #[.agg #[.int .i64 r.k, .int .i64 r.t, .int .i64 r.n, .int .i64 r.d, .string r.s, .int .i64 r.vk, .int .i64 r.vx, .int .u64 r.vb, .string r.vs, .slice r.la r.ll r.lc, .int .i64 r.f, .int .u64 (r.c : Int), .int .i64 r.m]] W (EnP (encE (N + 1) (exE ys j)) W)) := fun W hW => en_is N r (exE ys j) W (z1.below hW) (HH.out.fit j) (HM.out j hlt)
      obtain ⟨va, vc, hv, _⟩ := HG.out.read
      rw [blE_len] at hv
      subst hv
      have HW : Hid (wrap64 ((j : Int) + 1) = ((j + 1 : Nat) : Int)) := wr1 hlt (by have := HL.out; omega)
      have hjl : (j : Int) < (n : Int) := by omega
      have HS := blE_succ N ys j
      generalize encE (N + 1) (exE ys j) = L at C0 HS
      have HSS : Hid (blE N ys (j + 1) = blE N ys j ++ [L]) := HS
      clear hat z1 hr HS
      go_wp2_with fail
      refine (C0.out _ (bel1 wr _)).mono ?_
      rintro e w1 ⟨ba, bc, rfl, hh, hb⟩
      have hb1 := bel2 (bel1 wr _) hb
      obtain ⟨ra, rc, w2, hrun, hg, hb2⟩ := Gb.app (lo := w.heap.size) (src := w1.heap.size) ((HG.out.below hb1).below (bel1 w1 (.cells #[.slice ba L.length bc] 44))) (Boxed.new w1 44 (.slice ba L.length bc)).cell (hb_below hh (bel1 _ _)) (by have := HB.out.size; have := hb1.size; simp; omega) (by rw [blE_len]; have := HL.out; omega)
      rw [blE_len] at hrun hg
      rw [← HSS.out] at hg
      have HRun : Hid (∀ ty, _) := hrun
      have HG2 : Hid (Gb w.heap.size w2 (.slice ra (j + 1) rc) (blE N ys (j + 1))) := hg
      have HB2 : Hid (Below w.heap.size w w2) := (bel2 (bel2 HB.out hb1) (bel1 _ _)).trans hb2
      clear hrun hg hb1 hb2 hb hh C0 HG HSS e0 e1 e2 e3 e4 e5 e6 e7 e8 e9 e10 e11 e12
      generalize L.length = m at *
      go_wp2_with (at_builtin; refine Lib.wpList_append_run _ rfl _ _ 29 29 rfl _ _ rfl rfl _ _ (HRun.out _) ?_)
      exact ⟨⟨j + 1, hlt, by rw [HW.out], HG2, HB2⟩, meas hlt HW.out⟩
    · obtain rfl : j = n := by omega
      go_wp2_with fail
      go_ret
      exact ⟨_, rfl, HG.out, HB.out⟩
end Go.Proofs.Ytacmlholbnddpaa
namespace Go.Proofs.Ytacmlholbnddpaa
open Go.ChangeAt Go.ChangeShapes Go.Deep Go.RowKit Go.WideShapes
theorem info39 : (Try.prog.info? 39).map (fun i => (i.zero, i.size, i.bytes)) = some (some (.agg #[.int .i64 0, .int .i64 0, .int .i64 0, .int .i64 0, .string ⟨#[]⟩, .int .i64 0, .int .i64 0, .int .u64 0, .string ⟨#[]⟩, .slice none 0 0, .int .i64 0, .int .u64 0, .int .i64 0]), 13, 136) := by kernel_rfl
theorem rw_one (r : Rw) : ∀ z ∈ r.cells, z.oneCell' = true := by
  intro z hz
  simp only [Rw.cells, List.mem_cons, List.not_mem_nil, or_false] at hz
  rcases hz with rfl | rfl | rfl | rfl | rfl | rfl | rfl | rfl | rfl | rfl | rfl | rfl | rfl <;> rfl
theorem rw_new (w : World) (r : Rw) : ∀ j z, r.cells[j]? = some z → (w.alloc (.cells #[.int .i64 r.k, .int .i64 r.t, .int .i64 r.n, .int .i64 r.d, .string r.s, .int .i64 r.vk, .int .i64 r.vx, .int .u64 r.vb, .string r.vs, .slice r.la r.ll r.lc, .int .i64 r.f, .int .u64 (r.c : Int), .int .i64 r.m] 39)).cell? ((⟨w.heap.size, 0, none⟩ : Addr).add j) = some z := by
  intro j z hz
  rw [add_plain, Nat.zero_add]
  have e : (w.alloc (.cells #[.int .i64 r.k, .int .i64 r.t, .int .i64 r.n, .int .i64 r.d, .string r.s, .int .i64 r.vk, .int .i64 r.vx, .int .u64 r.vb, .string r.vs, .slice r.la r.ll r.lc, .int .i64 r.f, .int .u64 (r.c : Int), .int .i64 r.m] 39)).heap[w.heap.size]? = some (.cells #[.int .i64 r.k, .int .i64 r.t, .int .i64 r.n, .int .i64 r.d, .string r.s, .int .i64 r.vk, .int .i64 r.vx, .int .u64 r.vb, .string r.vs, .slice r.la r.ll r.lc, .int .i64 r.f, .int .u64 (r.c : Int), .int .i64 r.m] 39 (0, 0)) := World.alloc_heap_new w _
  simp only [World.cell?, e]
  rw [← hz]
  simp [Rw.cells]
def QE (P : Nat → Prop) (w : World) (n : Nat) (cs : List Value) (y : Ev) : Prop := ∃ r : Rw, cs = r.cells ∧ ∃ tv, y = r.ev tv ∧ IsQ P w (n + 1) r.vv tv
theorem QE.keep {P P' : Nat → Prop} {w w' : World} {n : Nat} {cs : List Value} {t : Ev} (hk : ∀ B, P B → B < w.heap.size → w'.heap[B]? = w.heap[B]? ∧ P' B) (h : QE P w n cs t) : QE P' w' n cs t := by
  obtain ⟨r, e, tv, e2, hi⟩ := h
  exact ⟨r, e, tv, e2, hi.keep hk⟩
/-- A list of the call's own, in blocks from lo on. -/
def Gr13 (lo n : Nat) (w : World) (u : Value) (xs : List Ev) : Prop :=
  ∃ cells, w.ownsRow lo 39 13 u xs.length cells ∧ ∀ (i : Nat) x, xs[i]? = some x → ∃ cs : List Value, cs.length = 13 ∧ (∀ k c, cs[k]? = some c → cells[i * 13 + k]? = some c) ∧ QE (fun B => lo ≤ B ∧ u.ownBlock ≠ some B) w n cs x
theorem Gr13.nil (lo n : Nat) (w : World) : Gr13 lo n w (.slice none 0 0) [] := ⟨[], World.ownsRow_nil _ _ _ _, fun i t h => by simp at h⟩
theorem Gr13.below {lo n : Nat} {w w' : World} {u : Value} {xs : List Ev} (h : Gr13 lo n w u xs) (hb : Below w.heap.size w w') : Gr13 lo n w' u xs := by
  obtain ⟨cells, ho, hc⟩ := h
  refine ⟨cells, rowb ho (fun B hB => hb.block B (World.ownsRow.lt ho B hB).2), fun i x hx => ?_⟩
  obtain ⟨cs, h0, h1, hq⟩ := hc i x hx
  exact ⟨cs, h0, h1, QE.keep (fun B hB hl => ⟨hb.block B hl, hB⟩) hq⟩
theorem Gr13.app {lo n src : Nat} {W : World} {u : Value} {xs : List Ev} {x : Ev} {news : List Value} (h : Gr13 lo n W u xs) (hnews : ∀ j z, news[j]? = some z → W.cell? ((⟨src, 0, none⟩ : Addr).add j) = some z) (hs1 : ∀ z ∈ news, z.oneCell' = true) (hl : news.length = 13) (hQ : QE (fun B => lo ≤ B ∧ u.ownBlock ≠ some B) W n news x) (hB : lo ≤ W.heap.size) (hk : (xs.length + 1) * 136 ≤ 140737488355328) :
    ∃ (a : Option Addr) (c : Nat) (w' : World), (∀ ty, (Builtin.append_ #[22, 22] ty #[u, .slice (some ⟨src, 0, none⟩) 1 1]).run Try.prog W = .ok (.slice a (xs.length + 1) c) w') ∧ Gr13 lo n w' (.slice a (xs.length + 1) c) (xs ++ [x]) ∧ Below lo W w' := by
  obtain ⟨cells, ho, hc⟩ := h
  obtain ⟨i0, hi0, hz0, hz1, hz2⟩ := info_parts info39
  obtain ⟨u', w2, hr, hown', hbl, hkeep, hblk, _⟩ := app2 (lo := lo) (src := src) (k := xs.length) (t := 22) (news := news) Try.underlying22 hi0 hz0 hz1 hz2 rfl (by decide) ho hl hnews hs1 (by omega) hk hB
  obtain ⟨g', cap', rfl⟩ := ownsRow_succ hown'
  have hold : ∀ B, (lo ≤ B ∧ u.ownBlock ≠ some B) → B < W.heap.size → w2.heap[B]? = W.heap[B]? ∧ (lo ≤ B ∧ (Value.slice (some ⟨g', 0, none⟩) (xs.length + 1) cap').ownBlock ≠ some B) := fun B hB hB3 => by
    refine ⟨hkeep B hB3 hB.2, hB.1, ?_⟩
    rcases hblk with e | e
    · rw [e]; exact hB.2
    · rw [e]; intro e2; injection e2 with e2; omega
  have hcl : cells.length = xs.length * 13 := ho.1
  refine ⟨_, _, w2, hr, ⟨cells ++ news, by rw [List.length_append]; exact hown', fun i z hz => ?_⟩, hbl⟩
  by_cases hlt : i < xs.length
  · rw [List.getElem?_append_left hlt] at hz
    obtain ⟨cs, h0, h1, hq⟩ := hc i z hz
    refine ⟨cs, h0, fun k c hkc => ?_, QE.keep hold hq⟩
    have hk13 : k < 13 := by have := (List.getElem?_eq_some_iff.1 hkc).1; omega
    rw [List.getElem?_append_left (by omega)]
    exact h1 k c hkc
  · have hi2 : i = xs.length := by
      have := (List.getElem?_eq_some_iff.1 hz).1
      simp at this
      omega
    subst hi2
    rw [List.getElem?_append_right (Nat.le_refl _)] at hz
    simp at hz
    subst hz
    refine ⟨news, hl, fun k c hkc => ?_, QE.keep hold hQ⟩
    rw [List.getElem?_append_right (by omega), hcl, Nat.add_sub_cancel_left]
    exact hkc
theorem IsQ.is {w : World} {P : Nat → Prop} : ∀ {n : Nat} {v : Value} {t : Tv}, IsQ P w n v t → Is w n v t
  | 0, _, _, h => h
  | n + 1, v, .mk k x b s l, ⟨a, c, hv, hf, hr⟩ => ⟨a, c, hv, hf, fun i t ht => by
      obtain ⟨B, o, c0, c1, c2, c3, c4, ha, _, h5, hi⟩ := hr i t ht
      exact ⟨B, o, c0, c1, c2, c3, c4, ha, h5, hi.is⟩⟩
theorem Gr13.rows {Bo N : Nat} {w : World} {u : Value} {ys : List Ev} (h : Gr13 Bo N w u ys) : ∃ a c rs, u = .slice a ys.length c ∧ ys.length ≤ c ∧ rs.length = ys.length ∧ RowE w a rs ∧ ∀ i, IsE w N (rx rs i) (exE ys i) := by
  obtain ⟨cells, ho, hc⟩ := h
  have h2 := ho
  obtain ⟨_, ⟨rfl, h0⟩ | ⟨g, cap, cur, rfl, _, _, hle, _⟩⟩ := ho
  · have e : ys = [] := List.eq_nil_of_length_eq_zero h0
    subst e
    exact ⟨none, 0, [], rfl, Nat.le_refl _, rfl, fun i r hr => by simp at hr, fun i => by rw [rx_none (by simp), exE_none (by simp)]; exact zr_is w N⟩
  · obtain ⟨rs, hl, hq⟩ := choose_rows (Q := fun i r => AtR w g (0 + i * 13) r ∧ IsE w N r (exE ys i)) ys.length (fun i hi => by
      obtain ⟨_, _, h1, r, rfl, tv, hy, hiq⟩ := hc i _ (List.getElem?_eq_getElem hi)
      have f : ∀ k z, k < 13 → r.cells[k]? = some z → w.cell? ⟨g, 0 + i * 13 + k, none⟩ = some z := fun k z hk hz => by rw [Nat.zero_add, World.ownsRow.cellAt h2 (i * 13 + k) (by omega)]; exact h1 k z hz
      exact ⟨r, ⟨f 0 _ (by omega) rfl, f 1 _ (by omega) rfl, f 2 _ (by omega) rfl, f 3 _ (by omega) rfl, f 4 _ (by omega) rfl, f 5 _ (by omega) rfl, f 6 _ (by omega) rfl, f 7 _ (by omega) rfl, f 8 _ (by omega) rfl, f 9 _ (by omega) rfl, f 10 _ (by omega) rfl, f 11 _ (by omega) rfl, f 12 _ (by omega) rfl⟩, tv, by rw [exE_some (List.getElem?_eq_getElem hi)]; exact hy, hiq.is⟩)
    refine ⟨_, cap, rs, rfl, hle, hl, fun i r hr => ⟨g, 0, rfl, (hq i r hr).1⟩, fun i => ?_⟩
    by_cases hi : i < rs.length
    · have hr := List.getElem?_eq_getElem hi
      rw [rx_some hr]
      exact (hq i _ hr).2
    · rw [rx_none (by omega), exE_none (by omega)]
      exact zr_is w N
theorem Gr13.shape {lo n : Nat} {w : World} {u : Value} {xs : List Ev} (h : Gr13 lo n w u xs) : ∃ a c, u = .slice a xs.length c := by
  obtain ⟨a, c, _, e, _⟩ := h.rows
  exact ⟨a, c, e⟩
theorem dc_is (N : Nat) (y : Ev) (b : Value) (w : World) (hm : MayE (N + 1) y) (hf : FitT (N + 1) y.v) (hfe : FitE y) (hv : Lib.HoldsBytes w b (encE (N + 1) y)) :
    Calls Try.prog 13 #[b] w fun e w' => ∃ r : Rw, e = .returned (.tuple #[.agg #[.int .i64 r.k, .int .i64 r.t, .int .i64 r.n, .int .i64 r.d, .string r.s, .int .i64 r.vk, .int .i64 r.vx, .int .u64 r.vb, .string r.vs, .slice r.la r.ll r.lc, .int .i64 r.f, .int .u64 (r.c : Int), .int .i64 r.m], .int .i64 0]) ∧ (∃ tv, y = r.ev tv ∧ IsN w.heap.size w' 5 r.vv tv) ∧ Below w.heap.size w w' := by
  have hl := encE_length hm hfe.1.k1 hfe.1.t1 hfe.1.n1 hfe.1.d1 hfe.2
  refine (decode_calls b _ w hv (by omega)).mono ?_
  have hb := rpE_back (N + 1) y hm hf hfe.2.c1 []
  rw [List.append_nil] at hb
  rw [hb]
  rintro e w' ⟨h1, _⟩
  obtain ⟨vk, vx, vb, vs, la, ll, lc, rfl, hi, hbl⟩ := h1 ⟨mayE_five hm hf, rfl, rfl⟩
  exact ⟨⟨y.k, y.t, y.n, y.d, y.s, vk, vx, vb, vs, la, ll, lc, y.f, y.c, y.m⟩, rfl, ⟨y.v, rfl, hi⟩, hbl⟩
set_option maxHeartbeats 4000000 in
set_option maxRecDepth 100000 in
theorem bread_calls (N n lo : Nat) (ys : List Ev) (hl : n ≤ 120) (hm : ∀ i, i < n → MayE (N + 1) (exE ys i)) (hf : ∀ i, i < n → FitT (N + 1) (exE ys i).v) (hfe : ∀ i, FitE (exE ys i)) (u : Value) (w : World) (hG : Gb lo w u (blE N ys n)) :
    Calls Try.prog 7 #[u] w fun e w' => ∃ v, e = .returned (.tuple #[v, .int .i64 0]) ∧ Gr13 w.heap.size 4 w' v ((List.range n).map (exE ys)) ∧ Below w.heap.size w w' := by
  obtain ⟨a, c, rfl, hU⟩ := hG.read
  rw [blE_len]
  have HU : Hid (∀ i, i < n → ∃ B o p cap, a = some ⟨B, o, none⟩ ∧ w.cell? ⟨B, o + i, none⟩ = some (.slice p (encE (N + 1) (exE ys i)).length cap) ∧ Lib.HoldsBytes w (.slice p (encE (N + 1) (exE ys i)).length cap) (encE (N + 1) (exE ys i))) := fun i hi => hU i _ (by unfold blE; rw [List.getElem?_map, List.getElem?_range hi]; rfl)
  have HL : Hid (n ≤ 120) := hl
  have HM : Hid (∀ i, i < n → MayE (N + 1) (exE ys i) ∧ FitT (N + 1) (exE ys i).v ∧ FitE (exE ys i)) := fun i hi => ⟨hm i hi, hf i hi, hfe i⟩
  have d0 : decide ((120 : Int) < (n : Int)) = false := decide_eq_false (by omega)
  clear hU hG hl hm hf hfe
  go_enter Try.func7, Try.ntmps7
  go_wp2_with fail
  go_loopw [4, 6, 7, 8, 14] (fun u _ _ _ i wr => ∃ j : Nat, j ≤ n ∧ i = .int .i64 (j : Int) ∧ Hid (Gr13 w.heap.size 4 wr u ((List.range j).map (exE ys))) ∧ Hid (Below w.heap.size w wr)) (fun _ _ _ _ i _ => n - (intOf i).toNat)
  case atStart => exact ⟨0, Nat.zero_le _, rfl, Gr13.nil _ _ _, Below.refl _ _⟩
  case round =>
    obtain ⟨j, hj, rfl, HG, HB⟩ := hrel
    by_cases hlt : j < n
    · obtain ⟨B, o, p, cap, rfl, hc0, hh0⟩ := HU.out j hlt
      have hc := cellB hc0 HB.out
      have hh := hb_below hh0 HB.out
      obtain ⟨m1, m2, m3⟩ := HM.out j hlt
      have C0 := dc_is N (exE ys j) _ wr m1 m2 m3 hh
      obtain ⟨va, vc, hv⟩ := HG.out.shape
      rw [List.length_map, List.length_range] at hv
      subst hv
      have HW : Hid (wrap64 ((j : Int) + 1) = ((j + 1 : Nat) : Int)) := wr1 hlt (by have := HL.out; omega)
      have hjl : (j : Int) < (n : Int) := by omega
      have HSn : Hid ((List.range j).map (exE ys) ++ [exE ys j] = (List.range (j + 1)).map (exE ys)) := by rw [List.range_succ, List.map_append]; rfl
      generalize (encE (N + 1) (exE ys j)).length = m at C0 hc
      have C1 : Hid (Calls _ _ _ _ _) := C0
      clear hc0 hh0 hh m1 m2 m3 C0
      go_wp2_with fail
      refine C1.out.mono ?_
      rintro e w1 ⟨r, rfl, ⟨tv, hy, hiN⟩, hb⟩
      have hbw := bel2 (bel1 w1 (.cells #[.int .i64 r.k, .int .i64 r.t, .int .i64 r.n, .int .i64 r.d, .string r.s, .int .i64 r.vk, .int .i64 r.vx, .int .u64 r.vb, .string r.vs, .slice r.la r.ll r.lc, .int .i64 r.f, .int .u64 (r.c : Int), .int .i64 r.m] 39)) (bel1 _ (.cells #[.int .i64 r.k, .int .i64 r.t, .int .i64 r.n, .int .i64 r.d, .string r.s, .int .i64 r.vk, .int .i64 r.vx, .int .u64 r.vb, .string r.vs, .slice r.la r.ll r.lc, .int .i64 r.f, .int .u64 (r.c : Int), .int .i64 r.m] 39))
      have hown : ∀ B, (Value.slice va j vc).ownBlock = some B → B < wr.heap.size := fun B hB => by
        obtain ⟨cells, ho, _⟩ := HG.out
        exact (World.ownsRow.lt ho B hB).2
      have hQ : QE (fun B => w.heap.size ≤ B ∧ (Value.slice va j vc).ownBlock ≠ some B) ((w1.alloc (.cells #[.int .i64 r.k, .int .i64 r.t, .int .i64 r.n, .int .i64 r.d, .string r.s, .int .i64 r.vk, .int .i64 r.vx, .int .u64 r.vb, .string r.vs, .slice r.la r.ll r.lc, .int .i64 r.f, .int .u64 (r.c : Int), .int .i64 r.m] 39)).alloc (.cells #[.int .i64 r.k, .int .i64 r.t, .int .i64 r.n, .int .i64 r.d, .string r.s, .int .i64 r.vk, .int .i64 r.vx, .int .u64 r.vb, .string r.vs, .slice r.la r.ll r.lc, .int .i64 r.f, .int .u64 (r.c : Int), .int .i64 r.m] 39)) 4 r.cells (exE ys j) := ⟨r, rfl, tv, hy, IsQ.keep (fun B hB hl => ⟨hbw.block B hl, hB⟩) (IsN.isQ (P := fun B => w.heap.size ≤ B ∧ (Value.slice va j vc).ownBlock ≠ some B) (fun B h1 h2 => ⟨Nat.le_trans HB.out.size h1, fun e => by have := hown B e; omega⟩) hiN)⟩
      have hnw := rw_new (w1.alloc (.cells #[.int .i64 r.k, .int .i64 r.t, .int .i64 r.n, .int .i64 r.d, .string r.s, .int .i64 r.vk, .int .i64 r.vx, .int .u64 r.vb, .string r.vs, .slice r.la r.ll r.lc, .int .i64 r.f, .int .u64 (r.c : Int), .int .i64 r.m] 39)) r
      rw [World.size_alloc] at hnw
      obtain ⟨ra, rc, w2, hrun, hg, hb2⟩ := Gr13.app (lo := w.heap.size) (src := w1.heap.size + 1) ((HG.out.below hb).below hbw) hnw (rw_one r) rfl hQ (by have := HB.out.size; have := hb.size; simp; omega) (by rw [List.length_map, List.length_range]; have := HL.out; omega)
      rw [List.length_map, List.length_range] at hrun hg
      rw [HSn.out] at hg
      have HRun : Hid (∀ ty, _) := hrun
      have HG2 : Hid (Gr13 w.heap.size 4 w2 (.slice ra (j + 1) rc) ((List.range (j + 1)).map (exE ys))) := hg
      have HB2 : Hid (Below w.heap.size w w2) := (bel2 (bel2 HB.out hb) hbw).trans hb2
      clear hrun hg hb2 hnw hQ hown hbw hb hiN hy C1 HG HSn hc
      go_wp2_with (at_builtin; refine Lib.wpList_append_run _ rfl _ _ 22 22 rfl _ _ rfl rfl _ _ (HRun.out _) ?_)
      exact ⟨⟨j + 1, hlt, by rw [HW.out], HG2, HB2⟩, meas hlt HW.out⟩
    · obtain rfl : j = n := by omega
      go_wp2_with fail
      go_ret2
      exact ⟨_, rfl, HG.out, HB.out⟩
end Go.Proofs.Ytacmlholbnddpaa
