/- Lists in blocks that are ok; the contract of Clone of a state. -/
import Derived.Test.YtcdhlklmnnmpoaaGreatSP
import Derived.Deep.RegionHeld3
import Derived.Deep.DeepCutAuto
import Derived.Deep.MidRow
namespace Go.Proofs.YtcdhlklmnnmpoaaGreat
open Go.ChangeShapes Go.WideShapes Go.ChangeAt Go.RowKit
/-- As Is, all lists in blocks that are ok. -/
def IsP (ok : Nat → Prop) (w : World) : Nat → Value → Tv → Prop
  | 0, _, _ => False
  | n + 1, v, .mk k x b s l => ∃ a c, v = .agg #[.int .i64 k, .int .i64 x, .int .u64 b, .string s, .slice a l.length c] ∧ Fit k x b s l.length c ∧
      ∀ (i : Nat) t, l[i]? = some t → ∃ B o c0 c1 c2 c3 c4, a = some ⟨B, o, none⟩ ∧ ok B ∧ At5 w B (o + i * 5) c0 c1 c2 c3 c4 ∧ IsP ok w n (.agg #[c0, c1, c2, c3, c4]) t
theorem cell_blk {w w' : World} {a : Addr} {v : Value} (hb : w'.heap[a.block]? = w.heap[a.block]?) (h : w.cell? a = some v) : w'.cell? a = some v := (World.cell?_of_block (w := w) hb).trans h
theorem IsP.keep {ok ok' : Nat → Prop} {w w' : World} (hok : ∀ B, B < w.heap.size → ok B → ok' B) (hb : ∀ B, B < w.heap.size → ok B → w'.heap[B]? = w.heap[B]?) : ∀ {n : Nat} {v : Value} {t : Tv}, IsP ok w n v t → IsP ok' w' n v t
  | 0, _, _, h => h
  | n + 1, v, .mk k x b s l, ⟨a, c, hv, hf, hr⟩ => ⟨a, c, hv, hf, fun i t ht => by
      obtain ⟨B, o, c0, c1, c2, c3, c4, ha, hB, h5, hi⟩ := hr i t ht
      have hlt : B < w.heap.size := World.block_lt_of_cell? w _ h5.1
      have e := hb B hlt hB
      exact ⟨B, o, c0, c1, c2, c3, c4, ha, hok B hlt hB, ⟨cell_blk e h5.1, cell_blk e h5.2.1, cell_blk e h5.2.2.1, cell_blk e h5.2.2.2.1, cell_blk e h5.2.2.2.2⟩, hi.keep hok hb⟩⟩
theorem IsM.isP {lo : Nat} {w : World} : ∀ {n : Nat} {v : Value} {t : Tv}, IsM lo w n v t → IsP (Free lo w) w n v t
  | 0, _, _, h => h
  | n + 1, v, .mk k x b s l, ⟨a, c, hv, hf, hr⟩ => ⟨a, c, hv, hf, fun i t ht => by
      obtain ⟨B, o, c0, c1, c2, c3, c4, ha, hB, h5, hi⟩ := hr i t ht
      exact ⟨B, o, c0, c1, c2, c3, c4, ha, hB, h5, hi.isP⟩⟩
theorem IsP.is {ok : Nat → Prop} {w : World} : ∀ {n : Nat} {v : Value} {t : Tv}, IsP ok w n v t → Is w n v t
  | 0, _, _, h => h
  | n + 1, v, .mk k x b s l, ⟨a, c, hv, hf, hr⟩ => ⟨a, c, hv, hf, fun i t ht => by
      obtain ⟨B, o, c0, c1, c2, c3, c4, ha, _, h5, hi⟩ := hr i t ht
      exact ⟨B, o, c0, c1, c2, c3, c4, ha, h5, hi.is⟩⟩
/-- A state whose lists, and those in its values, lie in blocks that are ok. -/
def Ps (ok : Nat → Prop) (w : World) (n : Nat) (cs : Array Value) (s : Sta) : Prop := IsS ok (IsP ok w n) w cs s
theorem RowS.keep {ok ok' : Nat → Prop} {w w' : World} {a : Option Addr} {k : Nat} {rows : List (Array Value)} (hok : ∀ B, B < w.heap.size → ok B → ok' B) (hb : ∀ B, B < w.heap.size → ok B → w'.heap[B]? = w.heap[B]?) (hk : 0 < k) (h : RowS ok w a k rows) : RowS ok' w' a k rows :=
  h.map hok (fun a _ ho hv => cell_blk (hb _ (World.block_lt_of_cell? w a hv) ho) hv) hk
theorem Ps.keep {ok ok' : Nat → Prop} {w w' : World} (hok : ∀ B, B < w.heap.size → ok B → ok' B) (hb : ∀ B, B < w.heap.size → ok B → w'.heap[B]? = w.heap[B]?) {n : Nat} {cs : Array Value} {s : Sta} (h : Ps ok w n cs s) : Ps ok' w' n cs s :=
  IsS.map hok (fun a _ ho hv => cell_blk (hb _ (World.block_lt_of_cell? w a hv) ho) hv) (fun _ _ h => h.keep hok hb) h
theorem Ps.rs {ok : Nat → Prop} {w : World} {n : Nat} {cs : Array Value} {s : Sta} (h : Ps ok w n cs s) : Rs w n cs s :=
  IsS.map (fun _ _ _ => trivial) (fun _ _ _ hv => hv) (fun _ _ h => h.is) h
theorem RowS.base {ok : Nat → Prop} {w : World} {a : Option Addr} {k : Nat} {rows : List (Array Value)} (hk : 0 < k) (h : RowS ok w a k rows) : rows = [] ∨ ∃ B o, a = some ⟨B, o, none⟩ ∧ ok B ∧ B < w.heap.size ∧ ∀ (i : Nat) r, rows[i]? = some r → Lies w B (o + i * k) r := by
  cases rows with
  | nil => exact .inl rfl
  | cons r l =>
    obtain ⟨h1, _, B, o, ha, hB, hl⟩ := h 0 r rfl
    refine .inr ⟨B, o, ha, hB, World.block_lt_of_cell? w _ (hl 0 _ (Array.getElem?_eq_getElem (by omega))), fun i r' hr => ?_⟩
    obtain ⟨_, _, B', o', ha', _, hl'⟩ := h i r' hr
    rw [ha] at ha'
    cases ha'
    exact hl'
/-- The zero state. -/
def zS : Array Value := #[.int .i64 0, .int .i64 0, .int .i64 0, .int .i64 0, .int .i64 0, .int .i64 0, .int .i64 0, .string ⟨#[]⟩, .int .i64 0, .int .i64 0, .int .u64 0, .string ⟨#[]⟩, .slice none 0 0, .int .i64 0, .int .u64 0, .int .i64 0, .int .i64 0, .int .i64 0, .int .i64 0, .int .i64 0, .int .i64 0, .bool false, .bool false, .slice none 0 0, .slice none 0 0, .int .i64 0, .int .i64 0, .int .u64 0, .string ⟨#[]⟩, .slice none 0 0, .string ⟨#[]⟩]
/-- A state whose values are not too long. -/
structure SmS (n : Nat) (s : Sta) : Prop where
  inp : SmallW n s.inp
  res : SmallW n s.res
  up : ∀ (i : Nat) u, s.up[i]? = some u → SmallW n u.v ∧ SmallW n u.o
/-- The plain parts of a state. -/
structure Ig (R : Value → Tv → Prop) (cs : Array Value) (s : Sta) : Prop where
  size : cs.size = 31
  c0 : cs[0]? = some (.int .i64 s.run)
  c1 : cs[1]? = some (.int .i64 s.status)
  c2 : cs[2]? = some (.int .i64 s.count)
  c3 : cs[3]? = some (.int .i64 s.time)
  c4 : cs[4]? = some (.int .i64 s.dl)
  c5 : cs[5]? = some (.int .i64 s.fr)
  c6 : cs[6]? = some (.int .i64 s.sig)
  c7 : cs[7]? = some (.string s.typ)
  inp : V5 R cs 8 s.inp
  c13 : cs[13]? = some (.int .i64 s.pf)
  c14 : cs[14]? = some (.int .u64 (s.pc : Int))
  c15 : cs[15]? = some (.int .i64 s.pm)
  c16 : cs[16]? = some (.int .i64 s.ts)
  c17 : cs[17]? = some (.int .i64 s.ta)
  c18 : cs[18]? = some (.int .i64 s.td)
  c19 : cs[19]? = some (.int .i64 s.te)
  c20 : cs[20]? = some (.int .i64 s.tn)
  c21 : cs[21]? = some (.bool s.fresh)
  c22 : cs[22]? = some (.bool s.cancel)
  res : V5 R cs 25 s.res
  c30 : cs[30]? = some (.string s.rea)
theorem Ig.map {R R' : Value → Tv → Prop} {cs : Array Value} {s : Sta} (hR : ∀ v t, R v t → R' v t) (h : Ig R cs s) : Ig R' cs s :=
  { h with inp := h.inp.map fun v => hR v _, res := h.res.map fun v => hR v _ }
/-- A block that is none of the two lists' own. -/
def Nb (cs : Array Value) (B : Nat) : Prop := ∀ v, cs[23]? = some v ∨ cs[24]? = some v → v.ownBlock ≠ some B
/-- Where values' lists may lie. -/
def Vk (ok : Nat → Prop) (lo : Nat) (w : World) (cs : Array Value) (B : Nat) : Prop := ok B ∧ Free lo w B ∧ Nb cs B
/-- A state whose lists are its own. -/
structure Og (ok : Nat → Prop) (lo : Nat) (w : World) (n : Nat) (cs : Array Value) (s : Sta) : Prop where
  ig : Ig (IsP (Vk ok lo w cs) w n) cs s
  tm : ∃ a c, cs[23]? = some (.slice a s.tm.length c) ∧ w.ownsRow lo 120 2 (.slice a s.tm.length c) s.tm.length ((s.tm.map Tm.cells).flatMap Array.toList)
  up : ∃ (a : Option Addr) (c : Nat) (us : List (Array Value)), cs[24]? = some (.slice a s.up.length c) ∧ w.ownsRow lo 50 12 (.slice a s.up.length c) s.up.length (us.flatMap Array.toList) ∧ us.length = s.up.length ∧ ∀ (i : Nat) r u, us[i]? = some r → s.up[i]? = some u → IsU (IsP (Vk ok lo w cs) w n) r u
theorem tm_cells {s : Sta} (i : Nat) (r : Array Value) (h : (s.tm.map Tm.cells)[i]? = some r) : r.size = 2 ∧ ∀ (j : Nat) (v : Value), r[j]? = some v → v.oneCell' = true := by
  rw [List.getElem?_map] at h
  cases ht : s.tm[i]? with
  | none => rw [ht] at h; cases h
  | some t =>
    rw [ht] at h
    cases h
    refine ⟨rfl, fun j v hv => ?_⟩
    have hm := Array.mem_of_getElem? hv
    simp only [Tm.cells, List.mem_toArray, List.mem_cons, List.not_mem_nil, or_false] at hm
    rcases hm with rfl | rfl <;> rfl
theorem owns_rowS {w : World} {lo t k n : Nat} {a : Option Addr} {c : Nat} {rows : List (Array Value)} (hl : rows.length = n) (hk : ∀ (i : Nat) r, rows[i]? = some r → r.size = k ∧ ∀ (j : Nat) (v : Value), r[j]? = some v → v.oneCell' = true) (h : w.ownsRow lo t k (.slice a n c) n (rows.flatMap Array.toList)) : RowS (Free lo w) w a k rows := fun i r hr => by
  refine ⟨(hk i r hr).1, (hk i r hr).2, ?_⟩
  rcases Go.Joins.ownsRow_forms h with ⟨h1, h0⟩ | ⟨g, cap, h1⟩
  · have := (List.getElem?_eq_some_iff.1 hr).1
    omega
  · cases h1
    refine ⟨g, 0, rfl, ⟨(h.lt g rfl).1, fun p => h.frozenAt p⟩, fun j u hj => ?_⟩
    have := h.cells (g := g) rfl (i * k + j) u (flatS_put (fun i r hr => (hk i r hr).1) hr hj)
    rw [← this]
    congr 1
    simp [Addr.add]
theorem Og.ps {ok : Nat → Prop} {lo : Nat} {w : World} {n : Nat} {cs : Array Value} {s : Sta} (h : Og ok lo w n cs s) : Ps (Free lo w) w n cs s := by
  have hR : ∀ v t, IsP (Vk ok lo w cs) w n v t → IsP (Free lo w) w n v t := fun v t hv => hv.keep (fun B _ hB => hB.2.1) (fun _ _ _ => rfl)
  have g := h.ig
  obtain ⟨a, c, h1, h2⟩ := h.tm
  obtain ⟨ua, uc, us, u1, u2, u3, u4⟩ := h.up
  exact { size := g.size, c0 := g.c0, c1 := g.c1, c2 := g.c2, c3 := g.c3, c4 := g.c4, c5 := g.c5, c6 := g.c6, c7 := g.c7, inp := g.inp.map fun v => hR v _, c13 := g.c13, c14 := g.c14, c15 := g.c15, c16 := g.c16, c17 := g.c17, c18 := g.c18, c19 := g.c19, c20 := g.c20, c21 := g.c21, c22 := g.c22, res := g.res.map fun v => hR v _, c30 := g.c30,
          tm := ⟨a, c, h1, owns_rowS (by simp) tm_cells h2⟩,
          up := ⟨ua, uc, us, u1, u3, owns_rowS u3 (fun i r hr => by
            have hi := (List.getElem?_eq_some_iff.1 hr).1
            have := u4 i r _ hr (List.getElem?_eq_getElem (by omega))
            exact ⟨this.size, this.one⟩) u2, fun i r u hr hu => (u4 i r u hr hu).map hR⟩ }
theorem owns_of_lies {w : World} {lo t k B cap n : Nat} {cur : Array Value} {rows : List (Array Value)} (hk : ∀ (i : Nat) r, rows[i]? = some r → r.size = k) (h0 : 0 < k) (hlen : rows.length = n) (hg : w.heap[B]? = some (.cells cur t (0, 0))) (hlo : lo ≤ B) (hn : n ≤ cap) (hm : cap ≤ maxLen) (hsz : cur.size = cap * k) (hl : ∀ (i : Nat) r, rows[i]? = some r → Lies w B (i * k) r) :
    w.ownsRow lo t k (.slice (some ⟨B, 0, none⟩) n cap) n (rows.flatMap Array.toList) := by
  have hfl := flatS_len hk
  rw [hlen] at hfl
  refine ⟨hfl, .inr ⟨B, cap, cur, rfl, hlo, hg, hn, hm, hsz, ?_⟩⟩
  have hle : n * k ≤ cap * k := Nat.mul_le_mul_right k hn
  apply List.ext_getElem?
  intro j
  by_cases hj : j < n * k
  · have hjk : j / k < n := by rw [Nat.div_lt_iff_lt_mul h0]; exact hj
    obtain ⟨r, hr⟩ : ∃ r, rows[j / k]? = some r := ⟨_, List.getElem?_eq_getElem (by omega)⟩
    have hd : j % k < r.size := by rw [hk _ _ hr]; exact Nat.mod_lt _ h0
    have hv := Array.getElem?_eq_getElem hd
    have h1 := hl _ _ hr _ _ hv
    have h2 := flatS_put hk hr hv
    have e : j / k * k + j % k = j := by rw [Nat.mul_comm]; exact Nat.div_add_mod j k
    rw [e] at h1 h2
    rw [cell_of_row w B j cur t (0, 0) hg] at h1
    rw [h2, List.getElem?_take_of_lt hj, Array.getElem?_toList, h1]
  · rw [List.getElem?_eq_none (by rw [List.length_take]; omega), List.getElem?_eq_none (by omega)]
theorem setCells_row {g t : Nat} : ∀ (vs : List Value) (o : Nat) (w : World) (cur : Array Value), w.heap[g]? = some (.cells cur t (0, 0)) → ∃ cur' : Array Value, (w.setCells g o vs).heap[g]? = some (.cells cur' t (0, 0)) ∧ cur'.size = cur.size
  | [], _, _, cur, h => ⟨cur, h, rfl⟩
  | v :: r, o, w, cur, h => by
    obtain ⟨c2, h1, h2⟩ := setCells_row r (o + 1) _ _ (heap_setCell_same w g o _ t v h)
    exact ⟨c2, h1, by rw [h2]; simp⟩
/-- What a clone of a state gives. -/
def ClS (n : Nat) (w : World) (s : Sta) (e : Ending) (w' : World) : Prop := (∃ cs', e = .returned (.agg cs') ∧ Og (fun _ => True) w.heap.size w' n cs' s) ∧ Below w.heap.size w w'
/-- Behind the two values. -/
structure StA (n g : Nat) (w : World) (cs : Array Value) (s : Sta) (wc : World) (cs1 : Array Value) : Prop where
  bel : Below g w wc
  row : wc.heap[g]? = some (.cells cs1 41 (0, 0))
  z : wc.heap[g + 1]? = some (.cells zS 41 (0, 0))
  size : cs1.size = 31
  sz : g + 2 ≤ wc.heap.size
  eq : ∀ q, (q < 8 ∨ (13 ≤ q ∧ q < 25) ∨ 30 ≤ q) → cs1[q]? = cs[q]?
  inp : V5 (IsP (Free (g + 2) wc) wc n) cs1 8 s.inp
  res : V5 (IsP (Free (g + 2) wc) wc n) cs1 25 s.res
theorem stA_mk {n g : Nat} {w w2 : World} {cs : Array Value} {s : Sta} {k1 x1 b1 k2 x2 b2 : Int} {s1 s2 : ByteArray} {a1 a2 : Option Addr} {m1 c1 m2 c2 : Nat} (hs : cs.size = 31) (hb : Below g w w2) (hg : w2.heap[g]? = some (.cells cs 41 (0, 0))) (hz : w2.heap[g + 1]? = some (.cells zS 41 (0, 0))) (sz : g + 2 ≤ w2.heap.size)
    (hv : IsM (g + 2) w2 n (.agg #[.int .i64 k1, .int .i64 x1, .int .u64 b1, .string s1, .slice a1 m1 c1]) s.inp) (ho : IsM (g + 2) w2 n (.agg #[.int .i64 k2, .int .i64 x2, .int .u64 b2, .string s2, .slice a2 m2 c2]) s.res) :
    StA n g w cs s (set5 (set5 w2 g 8 (.int .i64 k1) (.int .i64 x1) (.int .u64 b1) (.string s1) (.slice a1 m1 c1)) g 25 (.int .i64 k2) (.int .i64 x2) (.int .u64 b2) (.string s2) (.slice a2 m2 c2)) (put5 (put5 cs 8 (.int .i64 k1) (.int .i64 x1) (.int .u64 b1) (.string s1) (.slice a1 m1 c1)) 25 (.int .i64 k2) (.int .i64 x2) (.int .u64 b2) (.string s2) (.slice a2 m2 c2)) := by
  have k5 : KB g w2 (set5 (set5 w2 g 8 (.int .i64 k1) (.int .i64 x1) (.int .u64 b1) (.string s1) (.slice a1 m1 c1)) g 25 (.int .i64 k2) (.int .i64 x2) (.int .u64 b2) (.string s2) (.slice a2 m2 c2)) := (set5_kb w2 g 8 (.int .i64 k1) (.int .i64 x1) (.int .u64 b1) (.string s1) (.slice a1 m1 c1)).trans (set5_kb _ g 25 (.int .i64 k2) (.int .i64 x2) (.int .u64 b2) (.string s2) (.slice a2 m2 c2))
  have hs1 : (put5 cs 8 (.int .i64 k1) (.int .i64 x1) (.int .u64 b1) (.string s1) (.slice a1 m1 c1)).size = 31 := by rw [put5_size, hs]
  exact { bel := hb.trans (k5.below (Nat.le_refl _) (le2 sz)), row := set5_row (set5_row hg (.int .i64 k1) (.int .i64 x1) (.int .u64 b1) (.string s1) (.slice a1 m1 c1)) (.int .i64 k2) (.int .i64 x2) (.int .u64 b2) (.string s2) (.slice a2 m2 c2), z := row_kb hz k5 (by omega), size := by rw [put5_size, hs1], sz := Nat.le_trans sz k5.2.2.2.1,
          eq := fun q hq => by rw [put5_other _ _ _ _ _ _ _ _ (by omega), put5_other _ _ _ _ _ _ _ _ (by omega)],
          inp := (put5_v5 (by omega) (hv.kb k5 (lt2 g)).isP).other fun q h1 h2 => put5_other _ _ _ _ _ _ _ _ (by omega),
          res := put5_v5 (by omega) (ho.kb k5 (lt2 g)).isP }
theorem rowS_bel {g : Nat} {w wc : World} {a : Option Addr} {k : Nat} {rows : List (Array Value)} (hG : w.heap.size = g) (hb : Below g w wc) (hk : 0 < k) (h : RowS (fun _ => True) w a k rows) : RowS (fun _ => True) wc a k rows :=
  h.keep (fun _ _ _ => trivial) (fun B hB _ => hb.block B (by omega)) hk
theorem bel_g {g : Nat} {w wc : World} (hG : w.heap.size = g) (hb : Below g w wc) : Below w.heap.size w wc := by rw [hG]; exact hb
theorem setCells_kb (g : Nat) : ∀ (vs : List Value) (o : Nat) (w : World), KB g w (w.setCells g o vs)
  | [], _, w => KB.refl g w
  | v :: r, o, w => (KB.setCell g w o v).trans (setCells_kb g r (o + 1) _)
/-- Behind the two lists, ahead of the loop. -/
structure StC (n g T H : Nat) (w : World) (cs : Array Value) (s : Sta) (us : List (Array Value)) (a5 : Option Addr) (c5 : Nat) (W : World) (cs3 : Array Value) : Prop where
  bel : Below g w W
  row : W.heap[g]? = some (.cells cs3 41 (0, 0))
  z : W.heap[g + 1]? = some (.cells zS 41 (0, 0))
  size : cs3.size = 31
  sz : g + 2 ≤ H ∧ H ≤ W.heap.size ∧ g + 2 ≤ T ∧ T ≤ H
  eq : ∀ q, (q < 8 ∨ (13 ≤ q ∧ q < 23) ∨ 30 ≤ q) → cs3[q]? = cs[q]?
  inp : V5 (IsP (fun B => Free (g + 2) W B ∧ B < T) W n) cs3 8 s.inp
  res : V5 (IsP (fun B => Free (g + 2) W B ∧ B < T) W n) cs3 25 s.res
  tm : ∃ a c, cs3[23]? = some (.slice a s.tm.length c) ∧ W.ownsRow T 120 2 (.slice a s.tm.length c) s.tm.length ((s.tm.map Tm.cells).flatMap Array.toList) ∧ ∀ B, (Value.slice a s.tm.length c).ownBlock = some B → B < H
  c24 : cs3[24]? = some (.slice a5 s.up.length c5)
  up : RowS (Free H W) W a5 12 us
  uo : W.ownsRow H 50 12 (.slice a5 s.up.length c5) s.up.length (us.flatMap Array.toList)
theorem owns_blk {w w' : World} {lo lo' t k n : Nat} {v : Value} {xs : List Value} (h : w.ownsRow lo t k v n xs) (hl : lo' ≤ lo) (hb : ∀ B, v.ownBlock = some B → w'.heap[B]? = w.heap[B]?) : w'.ownsRow lo' t k v n xs := by
  obtain ⟨h1, h2 | ⟨g, cap, cur, rfl, hg0, hg, r⟩⟩ := h
  · exact ⟨h1, .inl h2⟩
  · exact ⟨h1, .inr ⟨g, cap, cur, rfl, Nat.le_trans hl hg0, (hb g rfl).trans hg, r⟩⟩
theorem ne_blk {w w' : World} {g : Nat} (hb : KB g w w') {B : Nat} (hB : B < w.heap.size) (hg : B ≠ g) : w'.heap[B]? = w.heap[B]? := hb.2.2.2.2 B hB hg
theorem free_keep {lo : Nat} {w w' : World} {B : Nat} (hb : w'.heap[B]? = w.heap[B]?) (h : Free lo w B) : Free lo w' B := ⟨h.1, fun p => (World.frozen?_of_block (w := w) (a := ⟨B, p, none⟩) hb).trans (h.2 p)⟩
theorem stC_mk {n g : Nat} {w wc w3 w5 : World} {cs cs1 : Array Value} {s : Sta} {us : List (Array Value)} {a3 a5 : Option Addr} {c3 c5 : Nat} (h : StA n g w cs s wc cs1) (hb3 : Below wc.heap.size wc w3) (hr3 : w3.ownsRow wc.heap.size 120 2 (.slice a3 s.tm.length c3) s.tm.length ((s.tm.map Tm.cells).flatMap Array.toList))
    (hb5 : Below (w3.setCell ⟨g, 23, none⟩ (.slice a3 s.tm.length c3)).heap.size (w3.setCell ⟨g, 23, none⟩ (.slice a3 s.tm.length c3)) w5) (hr5 : RowS (Free w3.heap.size w5) w5 a5 12 us) (ho5 : w5.ownsRow w3.heap.size 50 12 (.slice a5 s.up.length c5) s.up.length (us.flatMap Array.toList)) :
    StC n g wc.heap.size w3.heap.size w cs s us a5 c5 (w5.setCell ⟨g, 24, none⟩ (.slice a5 s.up.length c5)) ((cs1.setIfInBounds 23 (.slice a3 s.tm.length c3)).setIfInBounds 24 (.slice a5 s.up.length c5)) := by
  have hs := h.sz
  have s3 := hb3.size
  have k3 : KB g wc (w3.setCell ⟨g, 23, none⟩ (.slice a3 s.tm.length c3)) := (KB.of_below hb3).trans (KB.setCell g w3 23 _)
  have k5 : KB g (w3.setCell ⟨g, 23, none⟩ (.slice a3 s.tm.length c3)) (w5.setCell ⟨g, 24, none⟩ (.slice a5 s.up.length c5)) := (KB.of_below hb5).trans (KB.setCell g w5 24 _)
  have k6 : KB g w3 (w5.setCell ⟨g, 24, none⟩ (.slice a5 s.up.length c5)) := (KB.setCell g w3 23 _).trans k5
  have k7 : KB g wc (w5.setCell ⟨g, 24, none⟩ (.slice a5 s.up.length c5)) := k3.trans k5
  have r3 := heap_setCell_same w3 g 23 _ 41 (.slice a3 s.tm.length c3) (row_below hb3 h.row)
  have r5 := heap_setCell_same w5 g 24 _ 41 (.slice a5 s.up.length c5) (row_below hb5 r3)
  have keepv : ∀ {p t}, (8 ≤ p ∧ p + 5 ≤ 13 ∨ 25 ≤ p ∧ p + 5 ≤ 30) → V5 (IsP (Free (g + 2) wc) wc n) cs1 p t → V5 (IsP (fun B => Free (g + 2) (w5.setCell ⟨g, 24, none⟩ (.slice a5 s.up.length c5)) B ∧ B < wc.heap.size) (w5.setCell ⟨g, 24, none⟩ (.slice a5 s.up.length c5)) n) ((cs1.setIfInBounds 23 (.slice a3 s.tm.length c3)).setIfInBounds 24 (.slice a5 s.up.length c5)) p t := by
    intro p t hp hv
    refine (hv.map fun v hi => hi.keep (fun B hB hf => ⟨free_keep (ne_blk k7 hB (by have := hf.1; omega)) hf, by omega⟩) fun B hB hf => ne_blk k7 hB (by have := hf.1; omega)).other fun q h1 h2 => ?_
    rw [Array.getElem?_setIfInBounds_ne (by omega), Array.getElem?_setIfInBounds_ne (by omega)]
  exact { bel := h.bel.trans (k7.below (Nat.le_refl _) (by omega)), row := r5, z := row_kb h.z k7 (by omega), size := by simp [h.size], sz := ⟨by omega, k6.2.2.2.1, by omega, by omega⟩,
          eq := fun q hq => by rw [Array.getElem?_setIfInBounds_ne (by omega), Array.getElem?_setIfInBounds_ne (by omega), h.eq q (by omega)],
          inp := keepv (by omega) h.inp, res := keepv (by omega) h.res,
          tm := ⟨a3, c3, by rw [Array.getElem?_setIfInBounds_ne (by omega), Array.getElem?_setIfInBounds_self_of_lt (by rw [h.size]; omega)], owns_blk hr3 (Nat.le_refl _) (fun B hB => by have := hr3.lt B hB; exact ne_blk k6 this.2 (by omega)), fun B hB => (hr3.lt B hB).2⟩,
          uo := owns_blk ho5 (Nat.le_refl _) (fun B hB => by have := ho5.lt B hB; exact ne_blk (KB.setCell g w5 24 _) this.2 (by omega)),
          c24 := by rw [Array.getElem?_setIfInBounds_self_of_lt (by simp [h.size])],
          up := hr5.keep (fun B hB hf => free_keep (ne_blk (KB.setCell g w5 24 _) hB (by have := hf.1; omega)) hf) (fun B hB hf => ne_blk (KB.setCell g w5 24 _) hB (by have := hf.1; omega)) (by decide) }
/-- In the loop: j of the updates are cloned. -/
structure LpC (n g UB uo : Nat) (s : Sta) (us : List (Array Value)) (W wr : World) (j : Nat) : Prop where
  kb : KB UB W wr
  dn : ∃ nw : List (Array Value), nw.length = j ∧ ∀ (i : Nat) r, nw[i]? = some r → Lies wr UB (uo + i * 12) r ∧ ∃ u, s.up[i]? = some u ∧ IsU (IsP (fun B => Free (g + 2) wr B ∧ B ≠ UB ∧ W.heap.size ≤ B) wr n) r u
  rw : ∀ cur : Array Value, W.heap[UB]? = some (.cells cur 50 (0, 0)) → ∃ cur' : Array Value, wr.heap[UB]? = some (.cells cur' 50 (0, 0)) ∧ cur'.size = cur.size
  up : ∀ (i : Nat) r, j ≤ i → us[i]? = some r → Lies wr UB (uo + i * 12) r
  fz : (∀ p, W.frozen? ⟨UB, p, none⟩ = false) → ∀ p, wr.frozen? ⟨UB, p, none⟩ = false
theorem setCells_frozen (g : Nat) (a : Addr) : ∀ (vs : List Value) (o : Nat) (w : World), (w.setCells g o vs).frozen? a = w.frozen? a
  | [], _, _ => rfl
  | _v :: r, o, _w => (setCells_frozen g a r (o + 1) _).trans (World.frozen?_setCell _ _ _ _)
theorem cellW {w w' : World} {a : Addr} {v : Value} (h : w.cell? a = some v) (hb : Below w.heap.size w w') : w'.cell? a = some v := (hb.cell (World.block_lt_of_cell? w a h)).trans h
theorem info33s (cs : Array Value) (h : cs.size = 31) : (Tryz.prog.info? 41).map (·.size) = some cs.size := by
  rw [h]
  kernel_rfl
theorem IsS.one {ok : Nat → Prop} {R : Value → Tv → Prop} {w : World} {cs : Array Value} {s : Sta} (h : IsS ok R w cs s) (j : Nat) (v : Value) (hv : cs[j]? = some v) : v.oneCell' = true := by
  have hj := (Array.getElem?_eq_some_iff.1 hv).1
  rw [h.size] at hj
  obtain ⟨ta, tc, t1, _⟩ := h.tm
  obtain ⟨ua, uc, us, u1, _⟩ := h.up
  have : (8 ≤ j ∧ j < 8 + 5) ∨ (25 ≤ j ∧ j < 25 + 5) ∨ j = 0 ∨ j = 1 ∨ j = 2 ∨ j = 3 ∨ j = 4 ∨ j = 5 ∨ j = 6 ∨ j = 7 ∨ j = 13 ∨ j = 14 ∨ j = 15 ∨ j = 16 ∨ j = 17 ∨ j = 18 ∨ j = 19 ∨ j = 20 ∨ j = 21 ∨ j = 22 ∨ j = 23 ∨ j = 24 ∨ j = 30 := by omega
  rcases this with ⟨h1, h2⟩ | ⟨h1, h2⟩ | rfl | rfl | rfl | rfl | rfl | rfl | rfl | rfl | rfl | rfl | rfl | rfl | rfl | rfl | rfl | rfl | rfl | rfl | rfl | rfl | rfl
  · exact h.inp.one j v h1 h2 hv
  · exact h.res.one j v h1 h2 hv
  · rw [h.c0] at hv; cases hv; rfl
  · rw [h.c1] at hv; cases hv; rfl
  · rw [h.c2] at hv; cases hv; rfl
  · rw [h.c3] at hv; cases hv; rfl
  · rw [h.c4] at hv; cases hv; rfl
  · rw [h.c5] at hv; cases hv; rfl
  · rw [h.c6] at hv; cases hv; rfl
  · rw [h.c7] at hv; cases hv; rfl
  · rw [h.c13] at hv; cases hv; rfl
  · rw [h.c14] at hv; cases hv; rfl
  · rw [h.c15] at hv; cases hv; rfl
  · rw [h.c16] at hv; cases hv; rfl
  · rw [h.c17] at hv; cases hv; rfl
  · rw [h.c18] at hv; cases hv; rfl
  · rw [h.c19] at hv; cases hv; rfl
  · rw [h.c20] at hv; cases hv; rfl
  · rw [h.c21] at hv; cases hv; rfl
  · rw [h.c22] at hv; cases hv; rfl
  · rw [t1] at hv; cases hv; rfl
  · rw [u1] at hv; cases hv; rfl
  · rw [h.c30] at hv; cases hv; rfl
theorem lies_range {w : World} {B p : Nat} {r : Array Value} (h : Lies w B p r) : w.rangeAt B p r.toList := fun j v hv => h j v (by simpa using hv)
theorem lies_there {w : World} {B p k : Nat} {r : Array Value} (h : Lies w B p r) (hk : k ≤ r.size) (hf : ∀ o, w.frozen? ⟨B, o, none⟩ = false) : w.there B p k := fun j hj => ⟨by rw [h j _ (Array.getElem?_eq_getElem (by omega))]; rfl, hf _⟩
theorem lies_set {w : World} {B p : Nat} {r : Array Value} (h : w.there B p r.size) : Lies (w.setCells B p r.toList) B p r := fun j v hv => World.rangeAt_setCells_same w B p r.toList (by simpa using h) j v (by simpa using hv)
theorem lies_apart {w : World} {B p q : Nat} {r r' : Array Value} (h : Lies w B q r) (hap : q + r.size ≤ p ∨ p + r'.size ≤ q) : Lies (w.setCells B p r'.toList) B q r := fun j v hv =>
  World.rangeAt_setCells_apart (w := w) (lies_range h) B p r'.toList (.inr (by simpa using hap)) j v (by simpa using hv)
theorem LpC.step {n g UB uo : Nat} {s : Sta} {us : List (Array Value)} {W wr w7 : World} {j : Nat} {r us7 : Array Value} {u : Up} (h : LpC n g UB uo s us W wr j) (hk : ∀ (i : Nat) r, us[i]? = some r → r.size = 12) (hgU : g + 2 ≤ UB) (hUl : UB < wr.heap.size) (hr : us[j]? = some r) (hu : s.up[j]? = some u) (hb : Below wr.heap.size wr w7)
    (hlo : wr.heap.size ≤ w7.heap.size) (hn : IsU (IsM (wr.heap.size) w7 n) us7 u) (hfr : ∀ p, w7.frozen? ⟨UB, p, none⟩ = false) : LpC n g UB uo s us W (w7.setCells UB (uo + j * 12) us7.toList) (j + 1) := by
  have kb := setCells_kb UB us7.toList (uo + j * 12) w7
  have k7 : KB UB wr w7 := KB.of_below hb
  have h12 : us7.size = 12 := hn.size
  have lies7 : ∀ {p r}, Lies wr UB p r → Lies w7 UB p r := fun hl => hl.below hb
  have th : w7.there UB (uo + j * 12) us7.size := lies_there (lies7 (h.up j r (Nat.le_refl _) hr)) (by rw [hk j r hr, h12]; exact Nat.le_refl _) hfr
  obtain ⟨nw, hl, hnw⟩ := h.dn
  refine ⟨(h.kb.trans k7).trans kb, ⟨nw ++ [us7], by simp [hl], fun i r' hi => ?_⟩, fun cur hcur => ?_, fun i r' hij hi => ?_, fun _ p => (setCells_frozen _ _ _ _ _).trans (hfr p)⟩
  · rcases Nat.lt_or_ge i j with hij | hij
    · rw [List.getElem?_append_left (by omega)] at hi
      obtain ⟨h1, u', h2, h3⟩ := hnw i r' hi
      refine ⟨lies_apart (lies7 h1) (.inl (by rw [h3.size]; omega)), u', h2, h3.map fun v t hv => hv.keep (fun B hB hf => ?_) fun B hB hf => ?_⟩
      · exact ⟨free_keep ((ne_blk kb (by have := hb.size; omega) hf.2.1).trans (ne_blk k7 hB hf.2.1)) hf.1, hf.2⟩
      · exact (ne_blk kb (by have := hb.size; omega) hf.2.1).trans (ne_blk k7 hB hf.2.1)
    · have hlt := (List.getElem?_eq_some_iff.1 hi).1
      simp only [List.length_append, List.length_cons, List.length_nil, hl] at hlt
      obtain rfl : i = j := by omega
      rw [List.getElem?_append_right (by omega), hl, Nat.sub_self] at hi
      cases hi
      refine ⟨lies_set th, u, hu, hn.map fun v t hv => hv.isP.keep (fun B hB hf => ?_) fun B hB hf => ?_⟩
      · have : B ≠ UB := by have := hf.1; omega
        exact ⟨free_keep (ne_blk kb hB this) ⟨by have := hf.1; omega, hf.2⟩, this, by have := hf.1; have := h.kb.2.2.2.1; omega⟩
      · exact ne_blk kb hB (by have := hf.1; omega)
  · obtain ⟨c1, h1, h2⟩ := h.rw cur hcur
    obtain ⟨c2, h3, h4⟩ := setCells_row us7.toList (uo + j * 12) w7 c1 (by rw [hb.block UB hUl]; exact h1)
    exact ⟨c2, h3, by omega⟩
  · exact lies_apart (lies7 (h.up i r' (by omega) hi)) (.inr (by rw [h12]; omega))
theorem LpC.fin {n g T H UB uo : Nat} {w : World} {cs : Array Value} {s : Sta} {us : List (Array Value)} {a5 : Option Addr} {c5 : Nat} {W wr : World} {cs3 : Array Value} (hC : StC n g T H w cs s us a5 c5 W cs3) (h : LpC n g UB uo s us W wr s.up.length) (hR : Rs w n cs s) (hUH : H ≤ UB) (hUB : s.up.length = 0 → UB = W.heap.size)
    (hU : 0 < s.up.length → a5 = some ⟨UB, uo, none⟩ ∧ (∀ p, W.frozen? ⟨UB, p, none⟩ = false) ∧ UB < W.heap.size) : Og (fun _ => True) g (wr.setRow (g + 1) cs3) n cs3 s ∧ Below g w (wr.setRow (g + 1) cs3) := by
  have hs := hC.sz
  have k2 := setRow_kb wr (g + 1) cs3
  have hle := h.kb.2.2.2.1
  have hle2 := k2.2.2.2.1
  obtain ⟨ta, tc, t1, t2, t3⟩ := hC.tm
  have ub : ∀ B, (Value.slice a5 s.up.length c5).ownBlock = some B → H ≤ B ∧ B < W.heap.size := fun B hB => hC.uo.lt B hB
  have nbT : ∀ B, B < T → Nb cs3 B := fun B hB v hv e => by
    rcases hv with hv | hv
    · rw [t1] at hv; cases hv
      have := (t2.lt B e).1
      omega
    · rw [hC.c24] at hv; cases hv
      have := (ub B e).1
      omega
  have nbW : ∀ B, W.heap.size ≤ B → Nb cs3 B := fun B hB v hv e => by
    rcases hv with hv | hv
    · rw [t1] at hv; cases hv
      have := t3 B e
      omega
    · rw [hC.c24] at hv; cases hv
      have := (ub B e).2
      omega
  have oldk : ∀ B, B < W.heap.size → (Free (g + 2) W B ∧ B < T) → (wr.setRow (g + 1) cs3).heap[B]? = W.heap[B]? := fun B hB hf => (ne_blk k2 (by omega) (by have := hf.1.1; omega)).trans (ne_blk h.kb hB (by have := hf.2; omega))
  have oldf : ∀ B, B < W.heap.size → (Free (g + 2) W B ∧ B < T) → Vk (fun _ => True) g (wr.setRow (g + 1) cs3) cs3 B := fun B hB hf => ⟨trivial, free_keep (oldk B hB hf) ⟨by have := hf.1.1; omega, hf.1.2⟩, nbT B hf.2⟩
  obtain ⟨nw, hl, hnw⟩ := h.dn
  have e := fun q hq => hC.eq q hq
  refine ⟨{ ig := { size := hC.size, c0 := (e 0 (by omega)).trans hR.c0, c1 := (e 1 (by omega)).trans hR.c1, c2 := (e 2 (by omega)).trans hR.c2, c3 := (e 3 (by omega)).trans hR.c3, c4 := (e 4 (by omega)).trans hR.c4, c5 := (e 5 (by omega)).trans hR.c5, c6 := (e 6 (by omega)).trans hR.c6, c7 := (e 7 (by omega)).trans hR.c7, inp := hC.inp.map fun v hv => hv.keep oldf oldk, c13 := (e 13 (by omega)).trans hR.c13, c14 := (e 14 (by omega)).trans hR.c14, c15 := (e 15 (by omega)).trans hR.c15, c16 := (e 16 (by omega)).trans hR.c16, c17 := (e 17 (by omega)).trans hR.c17, c18 := (e 18 (by omega)).trans hR.c18, c19 := (e 19 (by omega)).trans hR.c19, c20 := (e 20 (by omega)).trans hR.c20, c21 := (e 21 (by omega)).trans hR.c21, c22 := (e 22 (by omega)).trans hR.c22, res := hC.res.map fun v hv => hv.keep oldf oldk, c30 := (e 30 (by omega)).trans hR.c30 }, tm := ⟨ta, tc, t1, owns_blk t2 (by omega) fun B hB => ?_⟩, up := ⟨a5, c5, nw, hC.c24, ?_, hl, fun i r u hr hu => ?_⟩ }, ?_⟩
  · have l1 := (t2.lt B hB).1
    have l2 := t3 B hB
    exact (ne_blk k2 (by omega) (by omega)).trans (ne_blk h.kb (by omega) (by omega))
  · rcases Nat.eq_zero_or_pos s.up.length with hz | hp
    · have hnw0 : nw = [] := List.eq_nil_of_length_eq_zero (by omega)
      have hus : us.flatMap Array.toList = [] := List.eq_nil_of_length_eq_zero (by rw [hC.uo.1, hz, Nat.zero_mul])
      have := hC.uo
      rw [hus] at this
      rw [hnw0]
      refine owns_blk this (by omega) fun B hB => ?_
      have := ub B hB
      exact (ne_blk k2 (by omega) (by omega)).trans (ne_blk h.kb (by omega) (by have := hUB hz; omega))
    · obtain ⟨rfl, hf, hUl⟩ := hU hp
      obtain ⟨hcl, ⟨h1, h0⟩ | ⟨g', cap, cur, h1, hg0, hg, hle', hm, hsz, _⟩⟩ := hC.uo
      · omega
      · cases h1
        obtain ⟨cur', hr', hz'⟩ := h.rw cur hg
        have eB : (wr.setRow (g + 1) cs3).heap[UB]? = wr.heap[UB]? := ne_blk k2 (by omega) (by omega)
        refine owns_of_lies (fun i r hr => ?_) (by decide) hl (eB.trans hr') (by omega) hle' hm (by rw [hz', hsz]) fun i r hr => ?_
        · obtain ⟨_, u, _, h3⟩ := hnw i r hr
          exact h3.size
        · obtain ⟨h1, _⟩ := hnw i r hr
          rw [Nat.zero_add] at h1
          exact h1.keep fun a v ha hv => cell_blk (by rw [ha]; exact eB) hv
  · obtain ⟨h1, u', h2, h3⟩ := hnw i r hr
    rw [hu] at h2
    cases h2
    exact h3.map fun v t hv => hv.keep (fun B hB hf => ⟨trivial, free_keep (ne_blk k2 hB (by have := hf.1.1; omega)) ⟨by have := hf.1.1; omega, hf.1.2⟩, nbW B hf.2.2⟩) fun B hB hf => ne_blk k2 hB (by have := hf.1.1; omega)
  · exact (hC.bel.trans (h.kb.below (by omega) (by omega))).trans (k2.below (by omega) (by omega))
set_option maxHeartbeats 4000000 in
set_option maxRecDepth 100000 in
theorem sclone_calls (n : Nat) (cs : Array Value) (s : Sta) (w : World) (h : Rs w n cs s) (hm : SmS n s) (ht : s.tm.length ≤ 1000) (hu : s.up.length ≤ 1000) : Calls Tryz.prog 68 #[.agg cs] w (ClS n w s) := by
  obtain ⟨k, x, b, st, a, m, c, i1, i2, i3, i4, i5, iv⟩ := h.inp
  obtain ⟨k', x', b', s', a', m', c', j1, j2, j3, j4, j5, jv⟩ := h.res
  have CV : Hid (∀ W, Below w.heap.size w W → _) := fun W hB => cloneW n _ _ W (iv.below hB) hm.inp
  have CO : Hid (∀ W, Below w.heap.size w W → _) := fun W hB => cloneW n _ _ W (jv.below hB) hm.res
  have I : Hid (cs[8]? = some (.int .i64 k) ∧ cs[9]? = some (.int .i64 x) ∧ cs[10]? = some (.int .u64 b) ∧ cs[11]? = some (.string st) ∧ cs[12]? = some (.slice a m c)) := ⟨i1, i2, i3, i4, i5⟩
  have J : Hid (cs[25]? = some (.int .i64 k') ∧ cs[26]? = some (.int .i64 x') ∧ cs[27]? = some (.int .u64 b') ∧ cs[28]? = some (.string s') ∧ cs[29]? = some (.slice a' m' c')) := ⟨j1, j2, j3, j4, j5⟩
  have HR : Hid (Rs w n cs s) := h
  have HM : Hid (SmS n s) := hm
  have HT : Hid (s.tm.length ≤ 1000) := ht
  have HU : Hid (s.up.length ≤ 1000) := hu
  have HQ : Hid (∀ e w', (∃ cs', e = .returned (.agg cs') ∧ Og (fun _ => True) w.heap.size w' n cs' s) → Below w.heap.size w w' → ClS n w s e w') := fun e w' a b => ⟨a, b⟩
  clear iv jv h hm ht hu i1 i2 i3 i4 i5 j1 j2 j3 j4 j5
  generalize ClS n w s = Q at HQ ⊢
  go_enter Tryz.func68, Tryz.ntmps68
  go_upto_region 1 with fail
  have HB : Hid (Below w.heap.size w ((w.alloc (.cells cs 41)).alloc (.cells zS 41))) := bel2 (bel1 _ _) (bel1 _ _)
  have hg : Hid (((w.alloc (.cells cs 41)).alloc (.cells zS 41)).heap[w.heap.size]? = some (.cells cs 41 (0, 0))) := heap_alloc2_old _ _ _
  have hz : Hid (((w.alloc (.cells cs 41)).alloc (.cells zS 41)).heap[w.heap.size + 1]? = some (.cells zS 41 (0, 0))) := heap_alloc2_new _ _ _
  have HZ : Hid (w.heap.size + 2 ≤ ((w.alloc (.cells cs 41)).alloc (.cells zS 41)).heap.size) := by show _ ≤ _; simp
  change Code.wp _ _ _ _ ((w.alloc (.cells cs 41)).alloc (.cells zS 41))
  generalize (w.alloc (.cells cs 41)).alloc (.cells zS 41) = W0 at HB hg hz HZ ⊢
  generalize hG : w.heap.size = g at *
  have HG : Hid (w.heap.size = g) := hG
  clear hG
  go_cut [] (fun wc => Hid (∃ cs1, StA n g w cs s wc cs1))
  case first =>
    have e8 : W0.cell? ⟨g, 8, none⟩ = some (.int .i64 k) := row_cell hg.out I.out.1
    have e9 : W0.cell? ⟨g, 9, none⟩ = some (.int .i64 x) := row_cell hg.out I.out.2.1
    have e10 : W0.cell? ⟨g, 10, none⟩ = some (.int .u64 b) := row_cell hg.out I.out.2.2.1
    have e11 : W0.cell? ⟨g, 11, none⟩ = some (.string st) := row_cell hg.out I.out.2.2.2.1
    have e12 : W0.cell? ⟨g, 12, none⟩ = some (.slice a m c) := row_cell hg.out I.out.2.2.2.2
    have e25 : W0.cell? ⟨g, 25, none⟩ = some (.int .i64 k') := row_cell hg.out J.out.1
    have e26 : W0.cell? ⟨g, 26, none⟩ = some (.int .i64 x') := row_cell hg.out J.out.2.1
    have e27 : W0.cell? ⟨g, 27, none⟩ = some (.int .u64 b') := row_cell hg.out J.out.2.2.1
    have e28 : W0.cell? ⟨g, 28, none⟩ = some (.string s') := row_cell hg.out J.out.2.2.2.1
    have e29 : W0.cell? ⟨g, 29, none⟩ = some (.slice a' m' c') := row_cell hg.out J.out.2.2.2.2
    have ef : ∀ o, W0.frozen? ⟨g, o, none⟩ = false := fun o => frozen_of_row W0 g o _ 41 hg.out
    go_region_with (first
      | (go_at_call_of 43 (Value.agg #[.int .i64 k, .int .i64 x, .int .u64 b, .string st, .slice a m c]); refine (CV.out _ HB.out.drew).mono ?_; rintro e w1 ⟨⟨v1, rfl, hn1⟩, hb1⟩; have HB1 : Hid (Below g w w1) := blt HB.out.drew (le2 HZ.out) hb1; have Hg1 : Hid (w1.heap[g]? = some (.cells cs 41 (0, 0))) := row_below hb1 hg.out; have Hz1 : Hid (w1.heap[g + 1]? = some (.cells zS 41 (0, 0))) := row_below hb1 hz.out; have HZ1 : Hid (g + 2 ≤ w1.heap.size) := Nat.le_trans HZ.out hb1.size; obtain ⟨k1, x1, b1, s1, a1, m1, c1, rfl⟩ := hn1.shape; have HN1 : Hid (IsM (g + 2) w1 n _ s.inp) := hn1.lower HZ.out; clear hb1 hn1; have p8 : w1.cell? ⟨g, 8, none⟩ = some (.int .i64 k) := row_cell Hg1.out I.out.1; have p9 : w1.cell? ⟨g, 9, none⟩ = some (.int .i64 x) := row_cell Hg1.out I.out.2.1; have p10 : w1.cell? ⟨g, 10, none⟩ = some (.int .u64 b) := row_cell Hg1.out I.out.2.2.1; have p11 : w1.cell? ⟨g, 11, none⟩ = some (.string st) := row_cell Hg1.out I.out.2.2.2.1; have p12 : w1.cell? ⟨g, 12, none⟩ = some (.slice a m c) := row_cell Hg1.out I.out.2.2.2.2; have p25 : w1.cell? ⟨g, 25, none⟩ = some (.int .i64 k') := row_cell Hg1.out J.out.1; have p26 : w1.cell? ⟨g, 26, none⟩ = some (.int .i64 x') := row_cell Hg1.out J.out.2.1; have p27 : w1.cell? ⟨g, 27, none⟩ = some (.int .u64 b') := row_cell Hg1.out J.out.2.2.1; have p28 : w1.cell? ⟨g, 28, none⟩ = some (.string s') := row_cell Hg1.out J.out.2.2.2.1; have p29 : w1.cell? ⟨g, 29, none⟩ = some (.slice a' m' c') := row_cell Hg1.out J.out.2.2.2.2; have pf : ∀ o, w1.frozen? ⟨g, o, none⟩ = false := fun o => frozen_of_row w1 g o _ 41 Hg1.out)
      | (go_at_call_of 43 (Value.agg #[.int .i64 k', .int .i64 x', .int .u64 b', .string s', .slice a' m' c']); refine (CO.out _ HB1.out).mono ?_; rintro e w2 ⟨⟨v2, rfl, hn2⟩, hb2⟩; have HB2 : Hid (Below g w w2) := blt HB1.out (le2 HZ1.out) hb2; have Hg2 : Hid (w2.heap[g]? = some (.cells cs 41 (0, 0))) := row_below hb2 Hg1.out; have Hz2 : Hid (w2.heap[g + 1]? = some (.cells zS 41 (0, 0))) := row_below hb2 Hz1.out; have HZ2 : Hid (g + 2 ≤ w2.heap.size) := Nat.le_trans HZ1.out hb2.size; obtain ⟨k2, x2, b2, s2, a2, m2, c2, rfl⟩ := hn2.shape; have HN2 : Hid (IsM (g + 2) w2 n _ s.res) := hn2.lower HZ1.out; have HM1 : Hid (IsM (g + 2) w2 n _ s.inp) := HN1.out.kb (g := g) (KB.of_below hb2) (lt2 g); clear hb2 hn2 HN1 HB1 Hg1 Hz1 HZ1; have q8 : w2.cell? ⟨g, 8, none⟩ = some (.int .i64 k) := row_cell Hg2.out I.out.1; have q9 : w2.cell? ⟨g, 9, none⟩ = some (.int .i64 x) := row_cell Hg2.out I.out.2.1; have q10 : w2.cell? ⟨g, 10, none⟩ = some (.int .u64 b) := row_cell Hg2.out I.out.2.2.1; have q11 : w2.cell? ⟨g, 11, none⟩ = some (.string st) := row_cell Hg2.out I.out.2.2.2.1; have q12 : w2.cell? ⟨g, 12, none⟩ = some (.slice a m c) := row_cell Hg2.out I.out.2.2.2.2; have q25 : w2.cell? ⟨g, 25, none⟩ = some (.int .i64 k') := row_cell Hg2.out J.out.1; have q26 : w2.cell? ⟨g, 26, none⟩ = some (.int .i64 x') := row_cell Hg2.out J.out.2.1; have q27 : w2.cell? ⟨g, 27, none⟩ = some (.int .u64 b') := row_cell Hg2.out J.out.2.2.1; have q28 : w2.cell? ⟨g, 28, none⟩ = some (.string s') := row_cell Hg2.out J.out.2.2.2.1; have q29 : w2.cell? ⟨g, 29, none⟩ = some (.slice a' m' c') := row_cell Hg2.out J.out.2.2.2.2; have qf : ∀ o, w2.frozen? ⟨g, o, none⟩ = false := fun o => frozen_of_row w2 g o _ 41 Hg2.out))
    all_goals
      go_wp2_with fail
      go_meet
      case rel => exact ⟨_, stA_mk HR.out.size HB2.out Hg2.out Hz2.out HZ2.out HM1.out HN2.out⟩
  case rest =>
    obtain ⟨cs1, hA⟩ := hcut.out
    have HA : Hid (StA n g w cs s wc cs1) := hA
    clear hcut CV CO I J HB hg hz HZ hA
    obtain ⟨ta, tc, ht1, ht2⟩ := HR.out.tm
    obtain ⟨ua, uc, us, hu1, hu2, hu3, hu4⟩ := HR.out.up
    have HU2 : Hid (us.length = s.up.length) := hu2
    have HU3 : Hid (RowS (fun _ => True) w ua 12 us) := hu3
    have HU4 : Hid (∀ (i : Nat) r u, us[i]? = some r → s.up[i]? = some u → IsU (Is w n) r u) := hu4
    have e23 : wc.cell? ⟨g, 23, none⟩ = some (.slice ta s.tm.length tc) := row_cell HA.out.row ((HA.out.eq 23 (by omega)).trans ht1)
    have E24 : Hid (cs1[24]? = some (.slice ua s.up.length uc)) := (HA.out.eq 24 (by omega)).trans hu1
    have CT : Hid (Calls Tryz.prog 76 #[.slice ta s.tm.length tc] wc (fun e w' => (∃ a' c', e = .returned (.slice a' s.tm.length c') ∧ RowS (Free wc.heap.size w') w' a' 2 (s.tm.map Tm.cells) ∧ w'.ownsRow wc.heap.size 120 2 (.slice a' s.tm.length c') s.tm.length ((s.tm.map Tm.cells).flatMap Array.toList)) ∧ Below wc.heap.size wc w')) := by
      have := sclone11 (fun _ => True) ta tc (s.tm.map Tm.cells) wc (by rw [List.length_map]; exact HT.out) (rowS_bel HG.out HA.out.bel (by decide) ht2)
      unfold ClP at this
      rw [List.length_map] at this
      exact this
    have CU : Hid (∀ W, Below g w W → Calls Tryz.prog 77 #[.slice ua s.up.length uc] W (fun e w' => (∃ a' c', e = .returned (.slice a' s.up.length c') ∧ RowS (Free W.heap.size w') w' a' 12 us ∧ w'.ownsRow W.heap.size 50 12 (.slice a' s.up.length c') s.up.length (us.flatMap Array.toList)) ∧ Below W.heap.size W w')) := by
      intro W hW
      have := sclone12 (fun _ => True) ua uc us W (by rw [HU2.out]; exact HU.out) (rowS_bel HG.out hW (by decide) HU3.out)
      unfold ClP at this
      rw [HU2.out] at this
      exact this
    clear ht1 ht2 hu1 hu2 hu3 hu4
    go_wp2_with fail
    refine CT.out.mono ?_
    rintro e w3 ⟨⟨a3, c3, rfl, hx3, hr3⟩, hb3⟩
    clear hx3
    have HB3 : Hid (Below wc.heap.size wc w3) := hb3
    have HR3 : Hid (w3.ownsRow wc.heap.size 120 2 (.slice a3 s.tm.length c3) s.tm.length ((s.tm.map Tm.cells).flatMap Array.toList)) := hr3
    have x23 : w3.cell? ⟨g, 23, none⟩ = some (.slice ta s.tm.length tc) := cell_blk (w := wc) (hb3.block g (by have := HA.out.sz; omega)) e23
    have x24 : w3.cell? ⟨g, 24, none⟩ = some (.slice ua s.up.length uc) := row_cell (row_below hb3 HA.out.row) E24.out
    have xf : ∀ o, w3.frozen? ⟨g, o, none⟩ = false := fun o => frozen_of_row w3 g o _ 41 (row_below hb3 HA.out.row)
    clear hr3 hb3 e23 CT
    go_wp2_with fail
    refine (CU.out _ ?_).mono ?_
    · exact (HA.out.bel.trans (HB3.out.mono (by have := HA.out.sz; omega))).trans ((KB.setCell g w3 23 _).below (Nat.le_refl _) (by have := HA.out.sz; have := HB3.out.size; omega))
    rintro e w5 ⟨⟨a5, c5, rfl, hr5, ho5⟩, hb5⟩
    have y24 : w5.cell? ⟨g, 24, none⟩ = some (.slice ua s.up.length uc) := (hb5.cell (by have := HA.out.sz; have := HB3.out.size; simp [World.setCell]; omega)).trans (by go_simp)
    have yf : ∀ o, w5.frozen? ⟨g, o, none⟩ = false := fun o => frozen_of_row w5 g o _ 41 (row_below hb5 (heap_setCell_same w3 g 23 _ 41 _ (row_below HB3.out HA.out.row)))
    have HC : Hid (StC n g wc.heap.size w3.heap.size w cs s us a5 c5 (w5.setCell ⟨g, 24, none⟩ (.slice a5 s.up.length c5)) _) := stC_mk HA.out HB3.out HR3.out hb5 (by simpa [World.setCell] using hr5) (by simpa [World.setCell] using ho5)
    clear hr5 ho5 hb5 x23 x24 xf CU
    go_wp2_with fail
    generalize (cs1.setIfInBounds 23 (.slice a3 s.tm.length c3)).setIfInBounds 24 (.slice a5 s.up.length c5) = cs3 at HC
    generalize w3.heap.size = H at HC
    generalize wc.heap.size = T at HC
    clear y24 yf HB3 HR3 HA E24
    generalize w5.setCell ⟨g, 24, none⟩ (.slice a5 s.up.length c5) = W at HC ⊢
    clear w5 w3 wc
    obtain ⟨UB, uo, hUH, hU0, hU1, hU2⟩ : ∃ UB uo, H ≤ UB ∧ (s.up.length = 0 → UB = W.heap.size) ∧ (0 < s.up.length → a5 = some ⟨UB, uo, none⟩ ∧ (∀ p, W.frozen? ⟨UB, p, none⟩ = false) ∧ UB < W.heap.size) ∧ ∀ (i : Nat) r, us[i]? = some r → Lies W UB (uo + i * 12) r := by
      rcases HC.out.up.base (by decide) with h0 | ⟨B, o, h1, h2, h3, h4⟩
      · exact ⟨W.heap.size, 0, HC.out.sz.2.1, fun _ => rfl, fun h => by rw [← HU2.out, h0] at h; simp at h, fun i r hr => by rw [h0] at hr; simp at hr⟩
      · exact (Nat.eq_zero_or_pos s.up.length).elim (fun hz => ⟨W.heap.size, 0, HC.out.sz.2.1, fun _ => rfl, fun h => by omega, fun i r hr => by have := (List.getElem?_eq_some_iff.1 hr).1; have := HU2.out; omega⟩) (fun hp => ⟨B, o, h2.1, fun h => by omega, fun _ => ⟨h1, h2.2, h3⟩, h4⟩)
    have HUH : Hid (H ≤ UB) := hUH
    have HU0 : Hid (s.up.length = 0 → UB = W.heap.size) := hU0
    have HU1 : Hid (0 < s.up.length → a5 = some ⟨UB, uo, none⟩ ∧ (∀ p, W.frozen? ⟨UB, p, none⟩ = false) ∧ UB < W.heap.size) := hU1
    have HL0 : Hid (LpC n g UB uo s us W W 0) := ⟨KB.refl _ _, ⟨[], rfl, fun i r hr => by simp at hr⟩, fun cur h => ⟨cur, h, rfl⟩, fun i r _ hr => hU2 i r hr, fun h => h⟩
    have HK : Hid (∀ (i : Nat) r, us[i]? = some r → r.size = 12) := fun i r hr => (HU3.out i r hr).1
    clear hUH hU0 hU1 hU2 HT
    go_loopw [24] (fun i wr => ∃ j : Nat, j ≤ s.up.length ∧ i = .int .i64 j ∧ Hid (LpC n g UB uo s us W wr j)) (fun i _ => s.up.length - (intOf i).toNat)
    case atStart => exact ⟨0, Nat.zero_le _, rfl, HL0⟩
    case round =>
      obtain ⟨j, hj, rfl, HL⟩ := hrel
      by_cases hlt : j < s.up.length
      · obtain ⟨ha5, hfr, hUl⟩ := HU1.out (by omega)
        obtain ⟨r, hr⟩ : ∃ r, us[j]? = some r := ⟨_, List.getElem?_eq_getElem (by rw [HU2.out]; exact hlt)⟩
        obtain ⟨u, hu⟩ : ∃ u, s.up[j]? = some u := ⟨_, List.getElem?_eq_getElem hlt⟩
        have hl := HL.out.up j r (Nat.le_refl _) hr
        have hIU := HU4.out j r u hr hu
        have hsz : r.size = 12 := hIU.size
        have HWr : Hid (W.heap.size ≤ wr.heap.size) := HL.out.kb.2.2.2.1
        have HBw : Hid (Below g w wr) := HC.out.bel.trans (HL.out.kb.below (by have := HUH.out; have := HC.out.sz; omega) (by have := HC.out.sz; omega))
        have HB0 : Hid (Below w.heap.size w wr) := bel_g HG.out HBw.out
        have HX : Hid (∀ W', Below wr.heap.size wr W' → Calls Tryz.prog 78 #[.agg r] W' (CuP n W' u)) := fun W' hW => cloneUpdate_calls n r u W' (hIU.map fun v t h => h.below (bel2 HB0.out hW)) (HM.out.up j u hu).1 (HM.out.up j u hu).2
        have hrow : wr.heap[g]? = some (.cells cs3 41 (0, 0)) := row_kb HC.out.row HL.out.kb (by have := HUH.out; have := HC.out.sz; omega)
        have hrng := lies_range hl
        have hi40 : (Tryz.prog.info? 50).map (·.size) = some r.toList.length := by rw [Array.length_toList]; exact info40s r hsz
        have hi40' := info40s r hsz
        have ho40 : zU.size = r.size := hsz.symm
        have h140 := all_one hIU.one
        have hz40 : (wr.alloc (.cells zU 50)).heap[wr.heap.size]? = some (.cells zU 50 (0, 0)) := heap_alloc_new wr _
        have HR24 : Hid (cs3[24]? = some (.slice a5 s.up.length c5)) := HC.out.c24
        subst ha5
        have hjl : (j : Int) < (s.up.length : Int) := by omega
        have HW1 : Hid (wrap64 ((j : Int) + 1) = ((j + 1 : Nat) : Int)) := wr1 hlt (by have := HU.out; omega)
        have HLi : Hid (Lies wr UB (uo + j * 12) r) := hl
        have HRow : Hid (wr.heap[g]? = some (.cells cs3 41 (0, 0))) := hrow
        have Hr : Hid (us[j]? = some r) := hr
        have Hu : Hid (s.up[j]? = some u) := hu
        have Hfr : Hid (∀ p, wr.frozen? ⟨UB, p, none⟩ = false) := HL.out.fz hfr
        have HUl : Hid (UB < wr.heap.size) := Nat.lt_of_lt_of_le hUl HWr.out
        clear hl hIU hrow hr hu hfr hUl
        go_wp2_with (first
          | refine wpList_load_mid rfl 50 _ rfl UB (uo + j * 12) rfl r.toList _ hrng Tryz.underlying50 rfl hi40 ?_
          | refine wpList_store_row rfl 50 _ _ rfl wr.heap.size r rfl rfl 50 zU hz40 hi40' ho40 h140 ?_)
        rw [World.setRow_alloc_new]
        have HBa : Hid (Below wr.heap.size wr (wr.alloc (.cells r 50))) := bel1 wr _
        have a24 : (wr.alloc (.cells r 50)).cell? ⟨g, 24, none⟩ = some (.slice (some ⟨UB, uo, none⟩) s.up.length c5) := cell_blk (HBa.out.block g (by have := HC.out.sz; have := HWr.out; show g < _; omega)) (row_cell HRow.out HR24.out)
        have ar : (wr.alloc (.cells r 50)).rangeAt wr.heap.size 0 r.toList := lies_range (Lies.row (heap_alloc_new wr _))
        have HGs : Hid (wr.heap.size < (wr.alloc (.cells r 50)).heap.size) := by show _ < _; simp
        generalize wr.alloc (.cells r 50) = Wa at HBa a24 ar HGs ⊢
        generalize hG4 : wr.heap.size = G at *
        have HG4 : Hid (wr.heap.size = G) := hG4
        clear hG4 hrng hz40
        refine wp_region_held_drew (S := (fun w' => w'.cell? ⟨g, 24, none⟩ = some (.slice (some ⟨UB, uo, none⟩) s.up.length c5) ∧ w'.rangeAt G 0 r.toList)) (by kernel_rfl) ⟨a24, ar⟩ (fun hHeld => ?_)
        change wpAnyH _ _ _ _ _ _ _ _ (World.drew _)
        refine wpAnyH_take (i := 0) (oi := { dst := some 29, op := Go.Op.fieldAddr 41 (Go.Operand.tmp 1) 14, type := 0, pos := "state.go:63", after := #[], guard := none }) (v := ?_) rfl (by kernel_rfl) (by kernel_rfl) (by kernel_rfl) (fun _ _ _ h => h) (Or.inl ⟨by rfl, ?_⟩) hHeld ?_
        rotate_left 1
        · (intro w hSw; (try dsimp only at hSw); go_simp <;> with_reducible rfl)
        simp only [Act.put, List.setIfInBounds_toArray, List.set_cons_zero, List.set_cons_succ]
        refine wpAnyH_take (i := 1) (oi := { dst := some 30, op := Go.Op.load 39 (Go.Operand.tmp 29), type := 39, pos := "state.go:63", after := #[{ on := 0, ground := Go.Ground.data }], guard := none }) (v := ?_) rfl (by kernel_rfl) (by kernel_rfl) (by kernel_rfl) (fun _ _ _ h => h) (Or.inl ⟨by rfl, ?_⟩) hHeld ?_
        rotate_left 1
        · (intro w hSw; (try dsimp only at hSw); go_simp <;> with_reducible rfl)
        simp only [Act.put, List.setIfInBounds_toArray, List.set_cons_zero, List.set_cons_succ]
        refine wpAnyH_take (i := 2) (oi := { dst := some 31, op := Go.Op.move (Go.Operand.tmp 3), type := 3, pos := "state.go:63", after := #[], guard := none }) (v := ?_) rfl (by kernel_rfl) (by kernel_rfl) (by kernel_rfl) (fun _ _ _ h => h) (Or.inl ⟨by rfl, ?_⟩) hHeld ?_
        rotate_left 1
        · (intro w hSw; (try dsimp only at hSw); go_simp <;> with_reducible rfl)
        simp only [Act.put, List.setIfInBounds_toArray, List.set_cons_zero, List.set_cons_succ]
        refine wpAnyH_take (i := 3) (oi := { dst := some 32, op := Go.Op.load 50 (Go.Operand.tmp 4), type := 50, pos := "state.go:63", after := #[], guard := none }) (v := _) rfl (by kernel_rfl) (by kernel_rfl) (by kernel_rfl) (fun _ _ _ h => h) (yieldsIf_load_mid rfl 50 _ rfl G 0 rfl r.toList _ (fun w h => h.2) Tryz.underlying50 rfl hi40) hHeld ?_
        simp only [Act.put, List.setIfInBounds_toArray, List.set_cons_zero, List.set_cons_succ]
        refine wpAnyH_ready (rs := [4]) (by kernel_rfl) (by simp) ?_
        refine AllReadyH.cons (o := { dst := some 33, op := Go.Op.call { callee := Go.Callee.value (Go.Operand.func 78), args := #[Go.Operand.tmp 32], argTypes := #[50] }, type := 50, pos := "state.go:63", after := #[{ on := 3, ground := Go.Ground.data }], guard := none }) rfl (fun K hK => ?_) AllReadyH.nil
        go_simp
        refine (HX.out _ HBa.out.drew).mono ?_
        rintro e w7 ⟨⟨us7, rfl, hn7⟩, hb7⟩
        have HB7 : Hid (Below G wr w7) := blt HBa.out.drew (Nat.le_of_lt HGs.out) hb7
        have HG7 : Hid (G < w7.heap.size) := Nat.lt_of_lt_of_le HGs.out hb7.size
        have b24 := cellW (w := Wa.drew) a24 hb7
        have br : w7.rangeAt G 0 r.toList := fun i v hv => cellW (w := Wa.drew) (ar i v hv) hb7
        have HN7 : Hid (IsU (IsM G w7 n) us7 u) := hn7.map fun v t h => h.lower (Nat.le_of_lt HGs.out)
        have hi7 := info40s us7 hn7.size
        have h17 := all_one hn7.one
        have Hfr7 : Hid (∀ p, w7.frozen? ⟨UB, p, none⟩ = false) := fun p => (HB7.out.frozen (p := ⟨UB, p, none⟩) (by have := HUl.out; have := HG4.out; omega)).trans (Hfr.out p)
        have ht7 : w7.there UB (uo + j * 12) us7.size := lies_there (HLi.out.keep fun a v ha hv => cell_blk (HB7.out.block _ (by have := HUl.out; have := HG4.out; omega)) hv) (by rw [hsz, hn7.size]; exact Nat.le_refl _) Hfr7.out
        clear hb7 hn7 hHeld
        refine hK.out _ _ ⟨b24, br⟩ (fun hHeld => ?_)
        clear hK K
        refine wpAnyH_take (i := 5) (oi := { dst := some 34, op := Go.Op.indexAddr 39 (Go.Operand.tmp 30) (Go.Operand.tmp 31), type := 0, pos := "state.go:63", after := #[{ on := 1, ground := Go.Ground.data }, { on := 2, ground := Go.Ground.data }, { on := 0, ground := Go.Ground.phase }, { on := 1, ground := Go.Ground.phase }, { on := 2, ground := Go.Ground.phase }, { on := 3, ground := Go.Ground.phase }, { on := 4, ground := Go.Ground.phase }], guard := none }) (v := ?_) rfl (by kernel_rfl) (by kernel_rfl) (by kernel_rfl) (fun _ _ _ h => h) (Or.inl ⟨by rfl, ?_⟩) hHeld ?_
        rotate_left 1
        · (intro w hSw; (try dsimp only at hSw); go_simp <;> with_reducible rfl)
        simp only [Act.put, List.setIfInBounds_toArray, List.set_cons_zero, List.set_cons_succ]
        refine wpAnyH_ready (rs := [6]) (by kernel_rfl) (by simp) ?_
        refine AllReadyH.cons (o := { dst := none, op := Go.Op.store 50 (Go.Operand.tmp 34) (Go.Operand.tmp 33), type := 0, pos := "state.go:63", after := #[{ on := 5, ground := Go.Ground.data }, { on := 4, ground := Go.Ground.data }, { on := 4, ground := Go.Ground.chain }, { on := 0, ground := Go.Ground.phase }, { on := 1, ground := Go.Ground.phase }, { on := 2, ground := Go.Ground.phase }, { on := 3, ground := Go.Ground.phase }, { on := 4, ground := Go.Ground.phase }], guard := none }) rfl (fun K hK => ?_) AllReadyH.nil
        rw [if_pos (by rfl)]
        refine wp_store_mid 50 _ _ rfl UB (uo + j * 12) us7 rfl rfl ht7 hi7 h17 ?_
        refine hK.out _ _ ⟨(setCells_kb UB us7.toList (uo + j * 12) w7).cell b24 (by have := HUH.out; have := HC.out.sz; show g ≠ UB; omega), fun i v hv => (setCells_kb UB us7.toList (uo + j * 12) w7).cell (br i v hv) (by have := HUl.out; show G ≠ UB; omega)⟩ (fun hHeld => ?_)
        clear hK K
        simp only [Act.put]
        refine wpAnyH_done (by kernel_rfl) ?_ _
        go_wp2_with fail
        refine ⟨⟨j + 1, hlt, by rw [HW1.out], ?_⟩, meas hlt HW1.out⟩
        exact HL.out.step HK.out (by have := HUH.out; have := HC.out.sz; omega) (by rw [HG4.out]; exact HUl.out) Hr.out Hu.out (by rw [HG4.out]; exact HB7.out) (by rw [HG4.out]; exact Nat.le_of_lt HG7.out) (by rw [HG4.out]; exact HN7.out) Hfr7.out
      · obtain rfl : j = s.up.length := by omega
        obtain ⟨hP, hBl⟩ := HL.out.fin HC.out HR.out HUH.out HU0.out HU1.out
        have hrow : wr.heap[g]? = some (.cells cs3 41 (0, 0)) := row_kb HC.out.row HL.out.kb (by have := HUH.out; have := HC.out.sz; omega)
        have hzr : wr.heap[g + 1]? = some (.cells zS 41 (0, 0)) := row_kb HC.out.z HL.out.kb (by have := HUH.out; have := HC.out.sz; omega)
        have hi33 := info33s cs3 HC.out.size
        have ho33 : zS.size = cs3.size := HC.out.size.symm
        have h133 := all_one hP.ps.one
        have HP : Hid (Og (fun _ => True) g (wr.setRow (g + 1) cs3) n cs3 s) := hP
        have HBl : Hid (Below g w (wr.setRow (g + 1) cs3)) := hBl
        clear hP hBl
        go_wp2_with (first
          | refine wpList_load_row rfl 41 _ rfl g rfl 41 cs3 (0, 0) _ hrow Tryz.underlying41 rfl hi33 ?_
          | refine wpList_store_row rfl 41 _ _ rfl (g + 1) cs3 rfl rfl 41 zS hzr hi33 ho33 h133 ?_)
        exact bodyPost_ret (results_cell_row Tryz.results68 _ _ (g + 1) 41 cs3 (0, 0) _ rfl (setRow_heap wr (g + 1) zS cs3 41 (0, 0) hzr) Tryz.underlying41 rfl hi33) rfl (HQ.out _ _ ⟨cs3, rfl, HP.out⟩ HBl.out)
end Go.Proofs.YtcdhlklmnnmpoaaGreat
