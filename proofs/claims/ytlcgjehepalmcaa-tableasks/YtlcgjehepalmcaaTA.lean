/- Entries of tables in memory; the contracts of slices.Clone of bytes, clone, IndexFunc, Find, placeOf. -/
import Derived.Test.YtlcgjehepalmcaaVI
import Derived.Laws.Rows
import Derived.Laws.Tables
import Derived.Laws.OwnMore
import Derived.Lib.AppendZeros
import Derived.Lib.SliceRun
import Derived.Deep.DeepCutAuto
namespace Go.Proofs.Ytlcgjehepalmcaa
open Go.ChangeShapes Go.WideShapes Go.ChangeAt Go.RowKit
/-- An entry: its Request, its Kind, its Key, its Run. -/
structure Dn where
  s : ByteArray
  k : Int
  y : List UInt8
  r : Int
/-- Four cells at p of block B. -/
def At4 (w : World) (B p : Nat) (c0 c1 c2 c3 : Value) : Prop :=
  w.cell? ⟨B, p, none⟩ = some c0 ∧ w.cell? ⟨B, p + 1, none⟩ = some c1 ∧ w.cell? ⟨B, p + 2, none⟩ = some c2 ∧ w.cell? ⟨B, p + 3, none⟩ = some c3
theorem At4.below {w w' : World} {B p : Nat} {c0 c1 c2 c3 : Value} (h : At4 w B p c0 c1 c2 c3) (hb : Below w.heap.size w w') : At4 w' B p c0 c1 c2 c3 := by
  have f : ∀ {q : Nat} {c : Value}, w.cell? ⟨B, q, none⟩ = some c → w'.cell? ⟨B, q, none⟩ = some c := fun hc => (hb.cell (World.block_lt_of_cell? w _ hc)).trans hc
  exact ⟨f h.1, f h.2.1, f h.2.2.1, f h.2.2.2⟩
/-- The entries ds lie at a, one behind the other. -/
def Tb (w : World) (a : Option Addr) (ds : List Dn) : Prop :=
  ∀ (i : Nat) d, ds[i]? = some d → ∃ B o p c, a = some ⟨B, o, none⟩ ∧ At4 w B (o + i * 4) (.string d.s) (.int .i64 d.k) (.slice p d.y.length c) (.int .i64 d.r) ∧ Lib.HoldsBytes w (.slice p d.y.length c) d.y
theorem Tb.below {w w' : World} {a : Option Addr} {ds : List Dn} (h : Tb w a ds) (hb : Below w.heap.size w w') : Tb w' a ds := fun i d hd => by
  obtain ⟨B, o, p, c, ha, h4, hh⟩ := h i d hd
  exact ⟨B, o, p, c, ha, h4.below hb, holds_below hh hb⟩
theorem Tb.nil (w : World) (a : Option Addr) : Tb w a [] := fun i d h => by simp at h
theorem cell_below {w w' : World} {a : Addr} {c : Value} (h : w.cell? a = some c) (hb : Below w.heap.size w w') : w'.cell? a = some c := Lib.Below.cellOf hb h (Nat.le_refl _)
theorem row_below {W w' : World} (hb : Below W.heap.size W w') {g : Nat} {o : Obj} (h : W.heap[g]? = some o) : w'.heap[g]? = some o := by
  rw [hb.block g (by rcases Nat.lt_or_ge g W.heap.size with h2 | h2; exact h2; rw [Array.getElem?_eq_none h2] at h; cases h), h]
theorem box4' (w : World) (g : Nat) (hg : w.heap.size = g) (c0 c1 c2 c3 : Value) : At4 (w.alloc (.cells #[c0, c1, c2, c3] 37)) g 0 c0 c1 c2 c3 := by
  subst hg
  exact ⟨by simp, by simp, by simp, by simp⟩
theorem box4 (w : World) (c0 c1 c2 c3 : Value) : At4 (w.alloc (.cells #[c0, c1, c2, c3] 37)) w.heap.size 0 c0 c1 c2 c3 := box4' w _ rfl _ _ _ _
theorem fresh4 (w : World) (M : Array Value) (o : Nat) : (w.alloc (.cells M 37)).frozen? ⟨w.heap.size, o, none⟩ = false := by
  unfold World.frozen?
  rw [heap_alloc_last]
  simp
theorem fresh4' (w : World) (g : Nat) (hg : w.heap.size = g) (M : Array Value) (o : Nat) : (w.alloc (.cells M 37)).frozen? ⟨g, o, none⟩ = false := by
  subst hg
  exact fresh4 w M o
theorem Own.shape {B : Nat} {w : World} {v : Value} {l : List UInt8} (h : Own B w v l) : ∃ a c, v = .slice a l.length c ∧ l.length ≤ c := by
  have h0 : w.ownsRow B 5 1 v l.length (bval l) := h
  obtain ⟨_, ⟨rfl, h2⟩ | ⟨g, cap, cur, rfl, _, _, hle, _⟩⟩ := h0
  · exact ⟨none, 0, by rw [h2], by omega⟩
  · exact ⟨_, _, rfl, hle⟩
theorem Own.holds {B : Nat} {w : World} {v : Value} {l : List UInt8} (h : Own B w v l) : Lib.HoldsBytes w v l := by
  have h0 : w.ownsRow B 5 1 v l.length (bval l) := h
  rcases h0.2 with ⟨rfl, hn⟩ | ⟨g, cap, cur, rfl, _⟩
  · have : l = [] := List.eq_nil_of_length_eq_zero hn
    subst this
    exact ⟨none, 0, rfl, fun _ => rfl, fun a ha => by cases ha⟩
  · refine ⟨_, _, rfl, (fun h => by cases h), fun a ha i x hx => ?_⟩
    cases ha
    have hi : i < l.length := (List.getElem?_eq_some_iff.1 hx).1
    have hc := h0.cellAt i (by omega)
    rw [add_plain, Nat.zero_add, hc]
    simp [bval, hx]
set_option maxHeartbeats 1000000 in
/-- append of bytes. -/
theorem Own.app {lo : Nat} {W : World} {u x : Value} {out l : List UInt8} (ho : Own lo W u out) (hx : Lib.HoldsBytes W x l) (hb : out.length + l.length ≤ 140737488355328) (hlo : lo ≤ W.heap.size) :
    ∃ u' w', (∀ ty, (Builtin.append_ #[35, 35] ty #[u, x]).run Try.prog W = .ok u' w') ∧ Own lo w' u' (out ++ l) ∧ W.grownBy w' u.ownBlock ∧ (u'.ownBlock = u.ownBlock ∨ u'.ownBlock = some W.heap.size) := by
  obtain ⟨i0, hi, hz0, hz1, hz2⟩ := info_parts Try.info5
  have h0 : W.ownsRow lo 5 1 u out.length (bval out) := ho
  obtain ⟨p, c, rfl, q1, q2⟩ := hx
  by_cases hl : l = []
  · subst hl
    obtain ⟨a, cu, rfl, hle⟩ := ho.shape
    refine ⟨.slice a out.length cu, W, fun ty => ?_, by rw [List.append_nil]; exact ho, ⟨rfl, rfl, rfl, Nat.le_refl _, fun _ _ _ => rfl⟩, .inl rfl⟩
    cases p <;> cases a <;> simp [Builtin.append_, run_underlying Try.underlying35, sizeOf, typeInfo, hi, Builtin.lenOf, Builtin.firstCells, loadCells, loadCellsFrom, hle, storeCells]
  · have hpos : 0 < l.length := List.length_pos_iff.2 hl
    cases p with
    | none => exact absurd (q1 rfl) hl
    | some a =>
      have hnews : ∀ j z, (bval l)[j]? = some z → W.cell? (a.add j) = some z := fun j z hj => by
        rw [bval, List.getElem?_map] at hj
        obtain ⟨y, hy, rfl⟩ := Option.map_eq_some_iff.1 hj
        exact q2 a rfl j y hy
      have hone : ∀ z ∈ bval l, z.oneCell' = true := fun z hz => by obtain ⟨y, _, rfl⟩ := List.mem_map.1 hz; rfl
      have key : ∀ ty, ∃ v' w', (Builtin.append_ #[35, 35] ty #[u, .slice (some a) l.length c]).run Try.prog W = .ok v' w' ∧ w'.ownsRow lo 5 1 v' (out.length + l.length) (bval out ++ bval l) ∧ W.grownBy w' u.ownBlock ∧ _ := fun ty =>
        run_append_own (P := Try.prog) (w := W) lo 35 ty 5 i0 (.int .u8 0) 1 1 Try.underlying35 hi hz0 hz1 hz2 rfl (by decide) u out.length (bval out) h0 a l.length c (bval l) (by simp [bval]) hnews hone (by unfold maxLen; omega) (by omega) hlo
      obtain ⟨u', w', hr, hown', hgrow, _⟩ := key 31
      have hblk : u'.ownBlock = u.ownBlock ∨ u'.ownBlock = some W.heap.size := by
        obtain ⟨hcl, ⟨rfl, hn0⟩ | ⟨g, cap, cur, rfl, _, hg, hle, _, hcs, _⟩⟩ := h0
        · have h2 := run_append_nil (P := Try.prog) W 35 35 5 i0 _ Try.underlying35 hi hz0 a l.length c (bval l) (by rw [hz1, bval_length, Nat.mul_one]) hnews hpos (by omega) (by rw [hz2]; omega)
          have e := hr.symm.trans h2
          cases e
          exact .inr rfl
        · by_cases hroom : out.length + l.length ≤ cap
          · have h2 := run_append_room (P := Try.prog) W 35 35 5 i0 Try.underlying35 hi g out.length cap cur hg a l.length c (bval l) (by rw [hz1, bval_length, Nat.mul_one]) hnews hone hroom (by rw [hz1, hcs, bval_length]; omega)
            have e := hr.symm.trans h2
            cases e
            exact .inl rfl
          · have holds : ∀ j z, (bval out)[j]? = some z → W.cell? ((⟨g, 0, none⟩ : Addr).add j) = some z := World.ownsRow.cells (g := g) ho rfl
            have h2 := run_append_grow (P := Try.prog) W 35 35 5 i0 _ Try.underlying35 hi hz0 ⟨g, 0, none⟩ out.length cap (bval out) (by rw [hz1, bval_length, Nat.mul_one]) holds a l.length c (bval l) (by rw [hz1, bval_length, Nat.mul_one]) hnews (by omega) (by omega) (growslice_fits (by omega) (by rw [hz2]; omega))
            have e := hr.symm.trans h2
            cases e
            exact .inr rfl
      refine ⟨u', w', fun ty => hr, ?_, hgrow, hblk⟩
      show w'.ownsRow lo 5 1 u' _ _
      rw [bval_append, List.length_append]
      exact hown'

set_option maxHeartbeats 1000000 in
theorem bclone_calls (v : Value) (l : List UInt8) (w : World) (hv : Lib.HoldsBytes w v l) (hl : l.length ≤ 140737488355328) : Calls Try.prog 39 #[v] w (fun x w' => ∃ a c, x = .returned (.slice a l.length c) ∧ Own w.heap.size w' (.slice a l.length c) l ∧ Below w.heap.size w w') := by
  have q35 : ∀ (w : World) (a : Option Addr) (n c n' c' : Nat), (binOp .eql 35 (.slice a n c) (.slice none n' c')).run Try.prog w = .ok (.bool a.isNone) w := fun w a n c n' c' => Lib.run_eql_slice_nil w _ _ a n c n' c' Try.underlying35
  have hv2 := hv
  obtain ⟨p, c, rfl, q1, q2⟩ := hv
  cases p with
  | none =>
    have hl0 : l = [] := q1 rfl
    subst hl0
    go_enter Try.func39, Try.ntmps39
    go_wp2_with fail
    go_ret
    exact ⟨none, 0, rfl, World.ownsRow_nil _ _ _ _, Below.refl _ _⟩
  | some a =>
    have o1 : Own w.heap.size (w.alloc (.cells #[] 5)) (.slice (some ⟨w.heap.size, 0, none⟩) 0 0) [] := World.ownsRow_made w #[] 0 (Nat.le_refl _) (Nat.zero_le _) rfl
    have b1 := bel1 w (.cells #[] 5)
    obtain ⟨v', w', hr, ho, hg, _⟩ := o1.app (holds_below hv2 b1) (by simp; omega) b1.size
    rw [List.nil_append] at ho
    have hB : Below w.heap.size w w' := b1.trans ((Below.refl _ _).grown hg b1.size (fun k hk => (World.ownsRow.lt (show World.ownsRow _ w.heap.size 5 1 _ 0 (bval []) from o1) k hk).1))
    obtain ⟨va, vc, rfl, _⟩ := ho.shape
    have HO : Hid (Own w.heap.size w' (.slice va l.length vc) l) := ho
    have HB : Hid (Below w.heap.size w w') := hB
    generalize l.length = n at hr HO
    clear hv2 hl o1 b1 ho hB hg q1 q2
    go_enter Try.func39, Try.ntmps39
    go_wp2_with (at_builtin; refine Lib.wpList_append_run _ rfl _ _ 35 35 rfl _ _ rfl rfl _ _ (hr _) ?_)
    go_ret
    exact ⟨va, vc, rfl, HO.out, HB.out⟩
/-- What clone answers: the entry d, its Key in memory from B on. -/
def ClP (w : World) (d : Dn) (e : Ending) (w' : World) : Prop :=
  ∃ p c, e = .returned (.agg #[.string d.s, .int .i64 d.k, .slice p d.y.length c, .int .i64 d.r]) ∧ Own w.heap.size w' (.slice p d.y.length c) d.y ∧ Below w.heap.size w w'
def set4 (w : World) (g p : Nat) (c0 c1 c2 c3 : Value) : World :=
  (((w.setCell ⟨g, p, none⟩ c0).setCell ⟨g, p + 1, none⟩ c1).setCell ⟨g, p + 2, none⟩ c2).setCell ⟨g, p + 3, none⟩ c3
theorem row_cell {w : World} {g j t : Nat} {cs : Array Value} {fr : Nat × Nat} {v : Value} (h : w.heap[g]? = some (.cells cs t fr)) (hj : cs[j]? = some v) : w.cell? ⟨g, j, none⟩ = some v := by
  rw [cell_of_row w g j cs t fr h]
  exact hj
theorem row_frozen {w : World} {g : Nat} {cs : Array Value} {t : TypeId} (h : w.heap[g]? = some (.cells cs t (0, 0))) (o : Nat) : w.frozen? ⟨g, o, none⟩ = false := by
  unfold World.frozen?
  rw [h]
  simp
theorem row_kb {g B : Nat} {w w' : World} {o : Obj} (h : w.heap[B]? = some o) (hb : KB g w w') (hg : B ≠ g) : w'.heap[B]? = some o := by
  rw [hb.2.2.2.2 B (by rcases Nat.lt_or_ge B w.heap.size with h2 | h2; exact h2; rw [Array.getElem?_eq_none h2] at h; cases h) hg, h]
theorem old2 (w : World) (a b : Obj) : ((w.alloc a).alloc b).heap[w.heap.size]? = some a := row_below (bel1 _ _) (heap_alloc_last w a)
theorem new2 (w : World) (a b : Obj) : ((w.alloc a).alloc b).heap[w.heap.size + 1]? = some b := by
  have := heap_alloc_last (w.alloc a) b
  simpa using this
theorem lt_of_row {w : World} {g : Nat} {o : Obj} (h : w.heap[g]? = some o) : g < w.heap.size := (Array.getElem?_eq_some_iff.1 h).1
theorem info37s : (Try.prog.info? 37).map (·.size) = some 4 := by kernel_rfl
theorem ret_cell_tmp {fn : Func} {p q : Tmp} {ty : TypeId} (h : fn.results = #[.cell p ty, .tmp q]) (tmps : Array Value) {w : World} {v u : Value} {a : Addr} (hp : tmps.getD p undef = .pointer (some a)) (hq : tmps.getD q undef = u) (hl : (loadVar ty a).run Try.prog w = .ok v w) : (results fn tmps).run Try.prog w = .ok (.tuple #[v, u]) w := by
  have hp' : tmps[p]?.getD undef = .pointer (some a) := by simpa using hp
  have hq' : tmps[q]?.getD undef = u := by simpa using hq
  simp [results, h, hp', hq', asAddr, hl]
theorem own_kb {g B : Nat} {w w' : World} {v : Value} {l : List UInt8} (h : Own B w v l) (hb : KB g w w') (hg : g < B) : Own B w' v l := by
  have h0 : w.ownsRow B 5 1 v l.length (bval l) := h
  show w'.ownsRow B 5 1 v l.length (bval l)
  obtain ⟨h1, h2 | ⟨q, cap, cur, rfl, hB, hq, r⟩⟩ := h0
  · exact ⟨h1, .inl h2⟩
  · exact ⟨h1, .inr ⟨q, cap, cur, rfl, hB, row_kb hq hb (by omega), r⟩⟩
theorem own_lower {B B' : Nat} {w : World} {v : Value} {l : List UInt8} (h : Own B w v l) (hl : B' ≤ B) : Own B' w v l := by
  have h0 : w.ownsRow B 5 1 v l.length (bval l) := h
  show w.ownsRow B' 5 1 v l.length (bval l)
  obtain ⟨h1, h2 | ⟨q, cap, cur, rfl, hB, hq, r⟩⟩ := h0
  · exact ⟨h1, .inl h2⟩
  · exact ⟨h1, .inr ⟨q, cap, cur, rfl, by omega, hq, r⟩⟩
theorem KB.setRow (g : Nat) (w : World) (cs : Array Value) : KB g w (w.setRow g cs) := by
  have hb := below_setRow (B := 0) (g := g) (Below.refl 0 w) (Nat.zero_le _) cs
  refine ⟨hb.os, hb.tape, hb.output, hb.size, fun k hk hne => ?_⟩
  unfold World.setRow
  simp only [Array.getElem?_modify]
  rw [if_neg (fun e => hne e.symm)]
theorem one4 (s : ByteArray) (k : Int) (p : Option Addr) (n c : Nat) (r : Int) : (#[.string s, .int .i64 k, .slice p n c, .int .i64 r] : Array Value).all (·.oneCell') = true := by
  simp [Value.oneCell']
set_option maxHeartbeats 2000000 in
set_option maxRecDepth 100000 in
theorem clone_calls (d : Dn) (p : Option Addr) (c : Nat) (w : World) (hh : Lib.HoldsBytes w (.slice p d.y.length c) d.y) (hl : d.y.length ≤ 140737488355328) :
    Calls Try.prog 23 #[.agg #[.string d.s, .int .i64 d.k, .slice p d.y.length c, .int .i64 d.r]] w (ClP w d) := by
  have KC : Hid (∀ W, Below w.heap.size w W → Calls Try.prog 39 #[.slice p d.y.length c] W (fun x w' => ∃ a c, x = .returned (.slice a d.y.length c) ∧ Own W.heap.size w' (.slice a d.y.length c) d.y ∧ Below W.heap.size W w')) := fun W hB => bclone_calls _ _ W (holds_below hh hB) hl
  have b0 : Hid (Below w.heap.size w ((w.alloc (.cells #[.string d.s, .int .i64 d.k, .slice p d.y.length c, .int .i64 d.r] 37)).alloc (.cells #[.string ⟨#[]⟩, .int .i64 0, .slice none 0 0, .int .i64 0] 37))) := bel2 (bel1 _ _) (bel1 _ _)
  have r0 : ((w.alloc (.cells #[.string d.s, .int .i64 d.k, .slice p d.y.length c, .int .i64 d.r] 37)).alloc (.cells #[.string ⟨#[]⟩, .int .i64 0, .slice none 0 0, .int .i64 0] 37)).heap[w.heap.size]? = some (.cells #[.string d.s, .int .i64 d.k, .slice p d.y.length c, .int .i64 d.r] 37 (0, 0)) := old2 _ _ _
  have r1 : ((w.alloc (.cells #[.string d.s, .int .i64 d.k, .slice p d.y.length c, .int .i64 d.r] 37)).alloc (.cells #[.string ⟨#[]⟩, .int .i64 0, .slice none 0 0, .int .i64 0] 37)).heap[w.heap.size + 1]? = some (.cells #[.string ⟨#[]⟩, .int .i64 0, .slice none 0 0, .int .i64 0] 37 (0, 0)) := new2 _ _ _
  clear hh hl
  obtain ⟨s, k, y, r⟩ := d
  have HQ : Hid (∀ p' c' w', Own w.heap.size w' (.slice p' y.length c') y → Below w.heap.size w w' → ClP w ⟨s, k, y, r⟩ (.returned (.agg #[.string s, .int .i64 k, .slice p' y.length c', .int .i64 r])) w') := fun p' c' w' h1 h2 => ⟨p', c', rfl, h1, h2⟩
  generalize ClP w ⟨s, k, y, r⟩ = Q at HQ ⊢
  dsimp only at KC b0 r0 r1 ⊢
  generalize y.length = n at KC b0 r0 r1 HQ ⊢
  go_enter Try.func23, Try.ntmps23
  go_upto_region 1 with fail
  change Code.wp _ _ _ _ ((w.alloc (.cells #[.string s, .int .i64 k, .slice p n c, .int .i64 r] 37)).alloc (.cells #[.string ⟨#[]⟩, .int .i64 0, .slice none 0 0, .int .i64 0] 37))
  generalize (w.alloc (.cells #[.string s, .int .i64 k, .slice p n c, .int .i64 r] 37)).alloc (.cells #[.string ⟨#[]⟩, .int .i64 0, .slice none 0 0, .int .i64 0] 37) = W0 at b0 r0 r1 ⊢
  have x2 : W0.cell? ⟨w.heap.size, 2, none⟩ = some (.slice p n c) := row_cell r0 rfl
  go_wp2_with fail
  refine (KC.out _ b0.out).mono ?_
  rintro e w1 ⟨p', c', rfl, ho, hb⟩
  have s0 := row_below hb r0
  have s1 := row_below hb r1
  have y2 : w1.cell? ⟨w.heap.size, 2, none⟩ = some (.slice p n c) := row_cell s0 rfl
  have f0 := row_frozen s0 2
  have HO : Hid (Own W0.heap.size w1 (.slice p' n c') y) := ho
  have HB : Hid (Below w.heap.size w w1) := bel2 b0.out hb
  have HS : Hid (w.heap.size + 1 < W0.heap.size) := lt_of_row r1
  clear x2 hb ho KC r0 r1 b0
  go_upto_region 2 with fail
  have k1 := KB.setCell w.heap.size w1 2 (.slice p' n c')
  have u0 : (w1.setCell ⟨w.heap.size, 2, none⟩ (.slice p' n c')).heap[w.heap.size]? = some (.cells #[.string s, .int .i64 k, .slice p' n c', .int .i64 r] 37 (0, 0)) := heap_setCell_same w1 w.heap.size 2 _ 37 _ s0
  have u1 := row_kb s1 k1 (by omega)
  have HO1 : Hid (Own W0.heap.size (w1.setCell ⟨w.heap.size, 2, none⟩ (.slice p' n c')) (.slice p' n c') y) := own_kb HO.out k1 (by have := HS.out; omega)
  have HB1 : Hid (Below w.heap.size w (w1.setCell ⟨w.heap.size, 2, none⟩ (.slice p' n c'))) := HB.out.trans (k1.below (Nat.le_refl _) HB.out.size)
  generalize w1.setCell ⟨w.heap.size, 2, none⟩ (.slice p' n c') = W2 at u0 u1 HO1 HB1 ⊢
  clear s0 s1 y2 f0 k1 HO HB
  have hz : (#[.string ⟨#[]⟩, .int .i64 0, .slice none 0 0, .int .i64 0] : Array Value).size = (#[.string s, .int .i64 k, .slice p' n c', .int .i64 r] : Array Value).size := rfl
  have ha : (#[.string s, .int .i64 k, .slice p' n c', .int .i64 r] : Array Value).all (·.oneCell') = true := one4 _ _ _ _ _ _
  go_wp2_with (first | refine wpList_load_row rfl 37 _ rfl w.heap.size rfl 37 _ (0, 0) _ u0 Try.underlying37 rfl info37s ?_ | refine wpList_store_row rfl 37 _ _ rfl (w.heap.size + 1) _ rfl rfl 37 _ u1 info37s hz ha ?_)
  have k9 := setRow_heap W2 (w.heap.size + 1) _ #[.string s, .int .i64 k, .slice p' n c', .int .i64 r] 37 (0, 0) u1
  refine bodyPost_ret (results_cell_row Try.results23 _ _ (w.heap.size + 1) 37 _ (0, 0) _ rfl k9 Try.underlying37 rfl info37s) rfl (HQ.out p' c' _ ?_ (below_setRow HB1.out (by omega) _))
  exact own_lower (own_kb HO1.out (KB.setRow _ _ _) HS.out) (by have := HS.out; omega)
/-- Texts held against each other. -/
def eqS (a b : ByteArray) : Bool := a.toList == b.toList
def gtS (a b : ByteArray) : Bool := !Op.bytesLess a.toList b.toList && !(a.toList == b.toList)
/-- Where the first one of a list is of which P says true. -/
def IxP (P : Dn → Bool) (ds : List Dn) (w : World) (e : Ending) (w' : World) : Prop :=
  ((∃ (j : Nat) (d : Dn), e = .returned (.int .i64 (j : Int)) ∧ ds[j]? = some d ∧ P d = true ∧ ∀ q d, q < j → ds[q]? = some d → P d = false) ∨ (e = .returned (.int .i64 (-1)) ∧ ∀ d ∈ ds, P d = false)) ∧ Below w.heap.size w w'
set_option maxHeartbeats 1000000 in
theorem eqc_calls (d : Dn) (x : Value) (q : ByteArray) (g : Nat) (w : World) (hg : w.cell? ⟨g, 0, none⟩ = some (.string q)) :
    Calls Try.prog 22 #[.agg #[.string d.s, .int .i64 d.k, x, .int .i64 d.r], .pointer (some ⟨g, 0, none⟩)] w fun e w' => e = .returned (.bool (eqS d.s q)) ∧ Below w.heap.size w w' := by
  have hb := bel1 w (.cells #[.string d.s, .int .i64 d.k, x, .int .i64 d.r] 37)
  have hg1 := cell_below hg hb
  have HB : Hid (Below w.heap.size w _) := hb
  clear hb hg
  go_enter Try.func22, Try.ntmps22
  go_wp2_with fail
  go_ret
  exact ⟨by first | rfl | simp, HB.out⟩
set_option maxHeartbeats 2000000 in
set_option maxRecDepth 100000 in
theorem ix22_calls (q : ByteArray) (ds : List Dn) (a : Option Addr) (n c : Nat) (hn : ds.length = n) (hs : n ≤ 1000) (g : Nat) (w : World) (h : Tb w a ds) (hg : w.cell? ⟨g, 0, none⟩ = some (.string q)) :
    Calls Try.prog 21 #[.slice a n c, .func (.func 22) #[] #[.pointer (some ⟨g, 0, none⟩)]] w (IxP (fun d => eqS d.s q) ds w) := by
  have HI : Hid (Tb w a ds) := h
  have HN : Hid (ds.length = n) := hn
  have HS : Hid (n ≤ 1000) := hs
  have HP : Hid (∀ W, Below w.heap.size w W → ∀ (d : Dn) (x : Value), Calls Try.prog 22 #[.agg #[.string d.s, .int .i64 d.k, x, .int .i64 d.r], .pointer (some ⟨g, 0, none⟩)] W fun e w' => e = .returned (.bool (eqS d.s q)) ∧ Below W.heap.size W w') := fun W hB d x => eqc_calls d x q g W (cell_below hg hB)
  have HQ1 : Hid (∀ (j : Nat) (d : Dn) w', ds[j]? = some d → eqS d.s q = true → (∀ i d, i < j → ds[i]? = some d → eqS d.s q = false) → Below w.heap.size w w' → IxP (fun d => eqS d.s q) ds w (.returned (.int .i64 (j : Int))) w') := fun j z w' h1 h2 h3 h4 => ⟨.inl ⟨j, z, rfl, h1, h2, h3⟩, h4⟩
  have HQ2 : Hid (∀ w', (∀ d ∈ ds, eqS d.s q = false) → Below w.heap.size w w' → IxP (fun d => eqS d.s q) ds w (.returned (.int .i64 (-1))) w') := fun w' h1 h4 => ⟨.inr ⟨rfl, h1⟩, h4⟩
  generalize IxP (fun d => eqS d.s q) ds w = Q at HQ1 HQ2 ⊢
  clear h hn hs hg
  go_enter Try.func21, Try.ntmps21
  go_wp2_with fail
  go_loopw [5, 8] (fun _ i wr => ∃ j : Nat, j ≤ n ∧ i = .int .i64 (j : Int) ∧ Hid (∀ i d, i < j → ds[i]? = some d → eqS d.s q = false) ∧ Hid (Below w.heap.size w wr)) (fun _ i _ => n - (intOf i).toNat)
  case atStart => exact ⟨0, Nat.zero_le _, rfl, fun q z hq => absurd hq (Nat.not_lt_zero _), Below.refl _ _⟩
  case round =>
    obtain ⟨j, hj, rfl, HF, HB⟩ := hrel
    by_cases hlt : j < n
    · have hjl : (j : Int) < (n : Int) := by omega
      have hj9 : (j : Int) < 1000 := by have := HS.out; omega
      obtain ⟨d, hd⟩ : ∃ d, ds[j]? = some d := ⟨_, List.getElem?_eq_getElem (by have := HN.out; omega)⟩
      obtain ⟨B, o, p, cc, rfl, ⟨e0, e1, e2, e3⟩, _⟩ := (HI.out.below HB.out) j d hd
      have HZ : Hid (ds[j]? = some d) := hd
      have HC : Hid (Calls Try.prog 22 #[.agg #[.string d.s, .int .i64 d.k, .slice p d.y.length cc, .int .i64 d.r], .pointer (some ⟨g, 0, none⟩)] wr fun e w' => e = .returned (.bool (eqS d.s q)) ∧ Below wr.heap.size wr w') := HP.out wr HB.out d _
      obtain ⟨pz, hpz⟩ : ∃ pz, pz = eqS d.s q := ⟨_, rfl⟩
      rw [← hpz] at HC
      have HZP : Hid (pz = eqS d.s q) := hpz
      have HW : Hid (wrap64 ((j : Int) + 1) = ((j + 1 : Nat) : Int)) := wr1 hlt (by have := HS.out; omega)
      clear hd hpz
      go_wp2_with fail
      refine HC.out.mono ?_
      rintro e w1 ⟨rfl, hb⟩
      have HB1 : Hid (Below w.heap.size w w1) := bel2 HB.out hb
      clear hb e0 e1 e2 e3
      cases pz with
      | true =>
        go_wp2_with fail
        exact HQ1.out j d _ HZ.out HZP.out.symm HF.out HB1.out
      | false =>
        have HF2 : Hid (∀ i d, i < j + 1 → ds[i]? = some d → eqS d.s q = false) := fun i z' hq hz' => by
          by_cases e : i = j
          · subst e; rw [HZ.out] at hz'; injection hz' with hz'; rw [← hz']; exact HZP.out.symm
          · exact HF.out i z' (by omega) hz'
        go_wp2_with fail
        exact ⟨⟨j + 1, hlt, by first | rw [HW.out] | exact congrArg _ (Int.natCast_succ j).symm, HF2, HB1⟩, by first | exact meas hlt HW.out | exact meas hlt (Int.natCast_succ j).symm⟩
    · obtain rfl : j = n := by omega
      go_wp2_with fail
      refine HQ2.out _ (fun z hz => ?_) HB.out
      obtain ⟨i, hi⟩ := List.getElem?_of_mem hz
      exact HF.out i z (by have := (List.getElem?_eq_some_iff.1 hi).1; have := HN.out; omega) hi
set_option maxHeartbeats 1000000 in
theorem gtc_calls (d : Dn) (x : Value) (q : ByteArray) (g : Nat) (w : World) (hg : w.cell? ⟨g, 0, none⟩ = some (.string q)) :
    Calls Try.prog 45 #[.agg #[.string d.s, .int .i64 d.k, x, .int .i64 d.r], .pointer (some ⟨g, 0, none⟩)] w fun e w' => e = .returned (.bool (gtS d.s q)) ∧ Below w.heap.size w w' := by
  have hb := bel1 w (.cells #[.string d.s, .int .i64 d.k, x, .int .i64 d.r] 37)
  have hg1 := cell_below hg hb
  have HB : Hid (Below w.heap.size w _) := hb
  clear hb hg
  go_enter Try.func45, Try.ntmps45
  go_wp2_with fail
  go_ret
  exact ⟨by first | rfl | simp, HB.out⟩
set_option maxHeartbeats 2000000 in
set_option maxRecDepth 100000 in
theorem ix45_calls (q : ByteArray) (ds : List Dn) (a : Option Addr) (n c : Nat) (hn : ds.length = n) (hs : n ≤ 1000) (g : Nat) (w : World) (h : Tb w a ds) (hg : w.cell? ⟨g, 0, none⟩ = some (.string q)) :
    Calls Try.prog 21 #[.slice a n c, .func (.func 45) #[] #[.pointer (some ⟨g, 0, none⟩)]] w (IxP (fun d => gtS d.s q) ds w) := by
  have HI : Hid (Tb w a ds) := h
  have HN : Hid (ds.length = n) := hn
  have HS : Hid (n ≤ 1000) := hs
  have HP : Hid (∀ W, Below w.heap.size w W → ∀ (d : Dn) (x : Value), Calls Try.prog 45 #[.agg #[.string d.s, .int .i64 d.k, x, .int .i64 d.r], .pointer (some ⟨g, 0, none⟩)] W fun e w' => e = .returned (.bool (gtS d.s q)) ∧ Below W.heap.size W w') := fun W hB d x => gtc_calls d x q g W (cell_below hg hB)
  have HQ1 : Hid (∀ (j : Nat) (d : Dn) w', ds[j]? = some d → gtS d.s q = true → (∀ i d, i < j → ds[i]? = some d → gtS d.s q = false) → Below w.heap.size w w' → IxP (fun d => gtS d.s q) ds w (.returned (.int .i64 (j : Int))) w') := fun j z w' h1 h2 h3 h4 => ⟨.inl ⟨j, z, rfl, h1, h2, h3⟩, h4⟩
  have HQ2 : Hid (∀ w', (∀ d ∈ ds, gtS d.s q = false) → Below w.heap.size w w' → IxP (fun d => gtS d.s q) ds w (.returned (.int .i64 (-1))) w') := fun w' h1 h4 => ⟨.inr ⟨rfl, h1⟩, h4⟩
  generalize IxP (fun d => gtS d.s q) ds w = Q at HQ1 HQ2 ⊢
  clear h hn hs hg
  go_enter Try.func21, Try.ntmps21
  go_wp2_with fail
  go_loopw [5, 8] (fun _ i wr => ∃ j : Nat, j ≤ n ∧ i = .int .i64 (j : Int) ∧ Hid (∀ i d, i < j → ds[i]? = some d → gtS d.s q = false) ∧ Hid (Below w.heap.size w wr)) (fun _ i _ => n - (intOf i).toNat)
  case atStart => exact ⟨0, Nat.zero_le _, rfl, fun q z hq => absurd hq (Nat.not_lt_zero _), Below.refl _ _⟩
  case round =>
    obtain ⟨j, hj, rfl, HF, HB⟩ := hrel
    by_cases hlt : j < n
    · have hjl : (j : Int) < (n : Int) := by omega
      have hj9 : (j : Int) < 1000 := by have := HS.out; omega
      obtain ⟨d, hd⟩ : ∃ d, ds[j]? = some d := ⟨_, List.getElem?_eq_getElem (by have := HN.out; omega)⟩
      obtain ⟨B, o, p, cc, rfl, ⟨e0, e1, e2, e3⟩, _⟩ := (HI.out.below HB.out) j d hd
      have HZ : Hid (ds[j]? = some d) := hd
      have HC : Hid (Calls Try.prog 45 #[.agg #[.string d.s, .int .i64 d.k, .slice p d.y.length cc, .int .i64 d.r], .pointer (some ⟨g, 0, none⟩)] wr fun e w' => e = .returned (.bool (gtS d.s q)) ∧ Below wr.heap.size wr w') := HP.out wr HB.out d _
      obtain ⟨pz, hpz⟩ : ∃ pz, pz = gtS d.s q := ⟨_, rfl⟩
      rw [← hpz] at HC
      have HZP : Hid (pz = gtS d.s q) := hpz
      have HW : Hid (wrap64 ((j : Int) + 1) = ((j + 1 : Nat) : Int)) := wr1 hlt (by have := HS.out; omega)
      clear hd hpz
      go_wp2_with fail
      refine HC.out.mono ?_
      rintro e w1 ⟨rfl, hb⟩
      have HB1 : Hid (Below w.heap.size w w1) := bel2 HB.out hb
      clear hb e0 e1 e2 e3
      cases pz with
      | true =>
        go_wp2_with fail
        exact HQ1.out j d _ HZ.out HZP.out.symm HF.out HB1.out
      | false =>
        have HF2 : Hid (∀ i d, i < j + 1 → ds[i]? = some d → gtS d.s q = false) := fun i z' hq hz' => by
          by_cases e : i = j
          · subst e; rw [HZ.out] at hz'; injection hz' with hz'; rw [← hz']; exact HZP.out.symm
          · exact HF.out i z' (by omega) hz'
        go_wp2_with fail
        exact ⟨⟨j + 1, hlt, by first | rw [HW.out] | exact congrArg _ (Int.natCast_succ j).symm, HF2, HB1⟩, by first | exact meas hlt HW.out | exact meas hlt (Int.natCast_succ j).symm⟩
    · obtain rfl : j = n := by omega
      go_wp2_with fail
      refine HQ2.out _ (fun z hz => ?_) HB.out
      obtain ⟨i, hi⟩ := List.getElem?_of_mem hz
      exact HF.out i z (by have := (List.getElem?_eq_some_iff.1 hi).1; have := HN.out; omega) hi
end Go.Proofs.Ytlcgjehepalmcaa
