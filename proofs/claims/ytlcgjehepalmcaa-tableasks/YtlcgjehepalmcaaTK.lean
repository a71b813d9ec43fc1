/- The walk of TableOnce. -/
import Derived.Test.YtlcgjehepalmcaaTJ
namespace Go.Proofs.Ytlcgjehepalmcaa
open Go.ChangeShapes Go.WideShapes Go.ChangeAt Go.RowKit
theorem eqS_symm {a b : ByteArray} (h : eqS a b = false) : eqS b a = false := by
  unfold eqS at *
  simp only [beq_eq_false_iff_ne, ne_eq] at *
  exact fun e => h e.symm
theorem fnd_take {ds : List Dn} {q : ByteArray} (h : fnd ds q = none) (p : Nat) : fnd (ds.take p) q = none := by
  unfold fnd at *
  rw [List.find?_eq_none] at *
  exact fun d hd => h d (List.mem_of_mem_take hd)
/-- A table with one put in. -/
def insD (ds : List Dn) (p : Nat) (d : Dn) : List Dn := ds.take p ++ d :: ds.drop p
theorem fnd_ins {ds : List Dn} {p : Nat} {d : Dn} {q : ByteArray} (h : fnd ds q = none) (hd : eqS d.s q = true) : fnd (insD ds p d) q = some d := by
  unfold insD
  have h1 := fnd_take h p
  unfold fnd at *
  rw [List.find?_append, h1, Option.none_or, List.find?_cons]
  simp [hd]
theorem fnd_other {ds : List Dn} {p : Nat} {d : Dn} {q : ByteArray} (hd : eqS d.s q = false) : fnd (insD ds p d) q = fnd ds q := by
  unfold insD fnd
  rw [List.find?_append, List.find?_cons]
  simp only [hd]
  conv => rhs; rw [← List.take_append_drop p ds, List.find?_append]
theorem insD_len {ds : List Dn} {p : Nat} {d : Dn} (hp : p ≤ ds.length) : (insD ds p d).length = ds.length + 1 := by
  unfold insD
  simp
  omega
theorem insD_y {ds : List Dn} {p : Nat} {d : Dn} (hy : ∀ x ∈ ds, x.y.length ≤ 140737488355328) (hd : d.y.length ≤ 140737488355328) : ∀ x ∈ insD ds p d, x.y.length ≤ 140737488355328 := by
  intro x hx
  unfold insD at hx
  rcases List.mem_append.1 hx with h | h
  · exact hy x (List.mem_of_mem_take h)
  · rcases List.mem_cons.1 h with rfl | h
    · exact hd
    · exact hy x (List.mem_of_mem_drop h)
theorem add_cases (ds : List Dn) (r : Rq) (run : Int) : ((addR ds r run).1 = ds ∧ (addR ds r run).2 ≠ 0) ∨ (fnd ds r.req = none ∧ addR ds r run = (insD ds (plc ds r.req) ⟨r.req, r.kind, keyB r, run⟩, 0)) := by
  unfold addR
  cases h : fnd ds r.req with
  | some d => exact .inl ⟨rfl, by show (1 : Int) ≠ 0; decide⟩
  | none =>
    dsimp only
    by_cases h30 : 30 ≤ ds.length
    · rw [if_pos h30]
      exact .inl ⟨rfl, by show (7 : Int) ≠ 0; decide⟩
    · rw [if_neg h30]
      exact .inr ⟨rfl, rfl⟩
theorem ask_ins {ds : List Dn} {p : Nat} {r : Rq} {run : Int} (h : fnd ds r.req = none) : askR (insD ds p ⟨r.req, r.kind, keyB r, run⟩) r = (run, 0) := by
  unfold askR
  rw [fnd_ins h (eqS_refl _)]
  simp
theorem ask_mis {ds : List Dn} {p : Nat} {r r2 : Rq} {run : Int} (h : fnd ds r.req = none) (hq : r2.req = r.req) (hk : (r.kind == r2.kind) = false) : askR (insD ds p ⟨r.req, r.kind, keyB r, run⟩) r2 = (0, 15) := by
  unfold askR
  rw [hq, fnd_ins h (eqS_refl _)]
  simp [hk]
theorem ask_oth {ds : List Dn} {p : Nat} {r r2 : Rq} {run : Int} (hq : eqS r2.req r.req = false) : askR (insD ds p ⟨r.req, r.kind, keyB r, run⟩) r2 = askR ds r2 := by
  unfold askR
  rw [fnd_other (eqS_symm hq)]
theorem wf_wrap (x : Int) : (Lit.int .i64 (wrap64 x)).wf = true := by
  simp only [Lit.wf, IntKind.min, IntKind.max, IntKind.signed, IntKind.bits, Bool.and_eq_true, decide_eq_true_eq, if_true]
  unfold wrap64
  omega
theorem wrap_ne {x : Int} (h : (Lit.int .i64 x).wf = true) : (x == wrap64 (x + 1)) = false := by
  have h2 := lo64 h
  rw [beq_eq_false_iff_ne]
  unfold wrap64
  omega
theorem IsR.bump {w : World} {n : Nat} {cs : Array Value} {r : Rq} (h : IsR w n cs r) (k : Int) (hk : (Lit.int .i64 k).wf = true) : IsR w n (cs.setIfInBounds 0 (.int .i64 k)) { r with kind := k } := by
  have e : ∀ j, j ≠ 0 → (cs.setIfInBounds 0 (.int .i64 k))[j]? = cs[j]? := fun j hj => Array.getElem?_setIfInBounds_ne (fun e => hj e.symm)
  obtain ⟨t, ⟨vk, vx, vb, vs, va, vm, vc, g4, g5, g6, g7, g8, hi⟩, hp⟩ := h.v
  have hs := h.size
  exact
  { size := by rw [Array.size_setIfInBounds]; exact hs, c0 := by rw [Array.getElem?_setIfInBounds]; simp [hs], c2 := (e 2 (by decide)).trans h.c2, c3 := (e 3 (by decide)).trans h.c3, c10 := (e 10 (by decide)).trans h.c10, c12 := (e 12 (by decide)).trans h.c12, c13 := (e 13 (by decide)).trans h.c13, c14 := (e 14 (by decide)).trans h.c14
    v := ⟨t, ⟨vk, vx, vb, vs, va, vm, vc, (e 4 (by decide)).trans g4, (e 5 (by decide)).trans g5, (e 6 (by decide)).trans g6, (e 7 (by decide)).trans g7, (e 8 (by decide)).trans g8, hi⟩, hp⟩
    one := fun j v hv => by
      by_cases hj : j = 0
      · subst hj
        rw [Array.getElem?_setIfInBounds] at hv
        simp [hs] at hv
        subst hv
        rfl
      · rw [e j hj] at hv
        exact h.one j v hv
    wk := hk, wn := h.wn, wf := h.wf, wm := h.wm, wc := h.wc, wq := h.wq }
set_option maxHeartbeats 8000000 in
set_option maxRecDepth 100000 in
theorem once_walk (ds : List Dn) (a : Option Addr) (n c : Nat) (hn : ds.length = n) (hy : ∀ d ∈ ds, d.y.length ≤ 140737488355328) (N M : Nat) (cs ss : Array Value) (r s : Rq) (run : Int) (w : World) (h : Tb w a ds) (hr : IsR w N cs r) (hs : IsR w M ss s) :
    Calls Try.prog 5 #[.slice a n c, .agg cs, .agg ss, .int .i64 run] w fun e w' => e = .returned (.bool true) ∧ Below w.heap.size w w' := by
  have KF : Hid (∀ W, Calls Try.prog 7 #[.slice a n c] W fun e w' => e = .returned (.bool (decide (n ≤ 60))) ∧ w' = W) := fun W => few_calls a n c W
  have KW : Hid (∀ W, Calls Try.prog 8 #[] W fun e w' => e = .returned (.bool true) ∧ Below W.heap.size W w') := awake_calls
  have hi1 := info32s cs hr.size
  have hi2 := info32s ss hs.size
  have b0 : Hid (Below w.heap.size w ((w.alloc (.cells cs 32)).alloc (.cells ss 32))) := bel2 (bel1 _ _) (bel1 _ _)
  have r0 : ((w.alloc (.cells cs 32)).alloc (.cells ss 32)).heap[w.heap.size]? = some (.cells cs 32 (0, 0)) := old2 _ _ _
  have q0 : ((w.alloc (.cells cs 32)).alloc (.cells ss 32)).heap[w.heap.size + 1]? = some (.cells ss 32 (0, 0)) := new2 _ _ _
  by_cases h60 : n ≤ 60
  · have d60 : decide (n ≤ 60) = true := decide_eq_true h60
    have KA : Hid (∀ W, Below w.heap.size w W → Calls Try.prog 16 #[.slice a n c, .agg cs, .int .i64 run] W (AdP W (addR ds r run))) := fun W hB => add_calls ds a n c hn (by omega) hy N cs r run W (h.below hB) (hr.below hB)
    have KS : Hid (∀ W b d, Below w.heap.size w W → Tb W b ds → Calls Try.prog 13 #[.slice b n d, .slice a n c] W fun e w' => e = .returned (.bool true) ∧ Below W.heap.size W w') := fun W b d hB hb => rsame_calls ds b a n d c hn (by omega) W hb (h.below hB)
    have KQ : Hid (∀ W, Below w.heap.size w W → Calls Try.prog 11 #[.slice a n c, .agg ss] W (AkP W (askR ds s))) := fun W hB => ask_calls ds a n c hn (by omega) hy M ss s W (h.below hB) (hs.below hB)
    have ho1 := all_one hr.one
    have e0 : cs[0]? = some (.int .i64 r.kind) := hr.c0
    have hsz := hr.size
    rcases add_cases ds r run with ⟨hc1, hc2⟩ | ⟨hc1, hc2⟩
    · obtain ⟨ec, hec⟩ : ∃ ec, ec = (addR ds r run).2 := ⟨_, rfl⟩
      have KA2 : Hid (∀ W, Below w.heap.size w W → Calls Try.prog 16 #[.slice a n c, .agg cs, .int .i64 run] W (AdP W (ds, ec))) := fun W hB => by
        have := KA.out W hB
        rwa [show addR ds r run = (ds, ec) from Prod.ext hc1 hec.symm] at this
      have hne : (ec != 0) = true := by rw [hec]; simpa using hc2
      have HNd : Hid (ds.length = n) := hn
      clear KA hc1 hc2 hec h60 h hr hs hy hn KQ ho1 e0 hsz
      go_enter Try.func5, Try.ntmps5
      go_upto_region 1 with fail
      change Code.wp _ _ _ _ ((w.alloc (.cells cs 32)).alloc (.cells ss 32))
      generalize (w.alloc (.cells cs 32)).alloc (.cells ss 32) = W0 at b0 r0 q0 ⊢
      go_wp2_with fail
      refine (KF.out W0).mono ?_
      rintro e w1 ⟨rfl, hw⟩
      have hw' := hw.symm
      subst hw'
      clear hw KF
      go_wp2_with (refine wpList_load_row rfl 32 _ rfl w.heap.size rfl 32 cs (0, 0) _ r0 Try.underlying32 rfl hi1 ?_)
      refine (KA2.out _ b0.out).mono ?_
      rintro e w1 ⟨v1, rfl, hg, hb⟩
      obtain ⟨ua, uc, e1⟩ := hg.shape
      dsimp only at hg e1
      rw [HNd.out] at e1
      subst e1
      have HB1 : Hid (Below w.heap.size w w1) := bel2 b0.out hb
      have KS1 : Hid (Calls Try.prog 13 #[.slice ua n uc, .slice a n c] w1 fun e w' => e = .returned (.bool true) ∧ Below w1.heap.size w1 w') := KS.out w1 ua uc HB1.out hg.tb
      clear hg hb KA2 KS r0 q0
      go_wp2_with fail
      refine KS1.out.mono ?_
      rintro e w2 ⟨rfl, hb⟩
      have HB2 : Hid (Below w.heap.size w w2) := bel2 HB1.out hb
      clear hb KS1
      go_wp2_with fail
      refine (KW.out w2).mono ?_
      rintro e w3 ⟨rfl, hb⟩
      have HB3 : Hid (Below w.heap.size w w3) := bel2 HB2.out hb
      clear hb
      go_wp2_with fail
      go_ret
      exact ⟨rfl, HB3.out⟩
    · obtain ⟨xs, hxs⟩ : ∃ xs, xs = insD ds (plc ds r.req) ⟨r.req, r.kind, keyB r, run⟩ := ⟨_, rfl⟩
      have hxl : xs.length = n + 1 := by rw [hxs, insD_len (plc_le _ _), hn]
      have hkl := keyB_len hr
      have hxy : ∀ d ∈ xs, d.y.length ≤ 140737488355328 := by rw [hxs]; exact insD_y hy (by show (keyB r).length ≤ _; omega)
      have KA2 : Hid (∀ W, Below w.heap.size w W → Calls Try.prog 16 #[.slice a n c, .agg cs, .int .i64 run] W (AdP W (xs, 0))) := fun W hB => by
        have := KA.out W hB
        rwa [hc2, ← hxs] at this
      have K1 : Hid (∀ W b d, Below w.heap.size w W → Tb W b xs → Calls Try.prog 11 #[.slice b (n + 1) d, .agg cs] W (AkP W (run, 0))) := fun W b d hB hb => by
        have := ask_calls xs b (n + 1) d hxl (by omega) hxy N cs r W hb (hr.below hB)
        rwa [hxs, ask_ins hc1] at this
      have K2 : Hid (∀ W b d, Below w.heap.size w W → Tb W b xs → Calls Try.prog 11 #[.slice b (n + 1) d, .agg (cs.setIfInBounds 0 (.int .i64 (wrap64 (r.kind + 1))))] W (AkP W (0, 15))) := fun W b d hB hb => by
        have := ask_calls xs b (n + 1) d hxl (by omega) hxy N _ _ W hb ((hr.below hB).bump _ (wf_wrap (r.kind + 1)))
        rwa [hxs, ask_mis (r2 := { r with kind := wrap64 (r.kind + 1) }) hc1 rfl (wrap_ne hr.wk)] at this
      have K3 : Hid (eqS s.req r.req = false → ∀ W b d, Below w.heap.size w W → Tb W b xs → Calls Try.prog 11 #[.slice b (n + 1) d, .agg ss] W (AkP W (askR ds s))) := fun he W b d hB hb => by
        have := ask_calls xs b (n + 1) d hxl (by omega) hxy M ss s W hb (hs.below hB)
        rwa [hxs, ask_oth he] at this
      have c2 := hr.c2
      have s2 := hs.c2
      have hib : (Try.prog.info? 32).map (·.size) = some (cs.setIfInBounds 0 (.int .i64 (wrap64 (r.kind + 1)))).size := info32s _ (by rw [Array.size_setIfInBounds]; exact hsz)
      have hz0 : (#[.int .i64 0, .string ⟨#[]⟩, .string ⟨#[]⟩, .string ⟨#[]⟩, .int .i64 0, .int .i64 0, .int .u64 0, .string ⟨#[]⟩, .slice none 0 0, .int .i64 0, .int .i64 0, .int .i64 0, .int .i64 0, .int .u64 0, .int .i64 0, .slice none 0 0, .slice none 0 0] : Array Value).size = cs.size := hsz.symm
      have HNd : Hid (xs.length = n + 1) := hxl
      have HN9 : Hid (n ≤ 60) := h60
      have hww : wrap64 ((n : Int) + 1) = (n : Int) + 1 := wr1 (Nat.lt_succ_of_le h60) (by omega)
      have hne : ((n : Int) + 1 != (n : Int) + 1) = false := by simp
      have hrr : (run != run) = false := by simp
      have hqq : ((askR ds s).1 == (askR ds s).1) = true := by simp
      have hqr : ((askR ds s).2 == (askR ds s).2) = true := by simp
      have HSq : Hid (eqS s.req r.req = (s.req.toList == r.req.toList)) := rfl
      have HE0 : Hid (cs[0]? = some (.int .i64 r.kind)) := e0
      clear KA hc1 hc2 h60 h hr hs hy hn hxs hxl hxy hkl KS hsz e0
      generalize askR ds s = qa at KQ K3 hqq hqr
      obtain ⟨qn, qe⟩ := qa
      dsimp only at hqq hqr
      go_enter Try.func5, Try.ntmps5
      go_upto_region 1 with fail
      change Code.wp _ _ _ _ ((w.alloc (.cells cs 32)).alloc (.cells ss 32))
      generalize (w.alloc (.cells cs 32)).alloc (.cells ss 32) = W0 at b0 r0 q0 ⊢
      go_wp2_with fail
      refine (KF.out W0).mono ?_
      rintro e w1 ⟨rfl, hw⟩
      have hw' := hw.symm
      subst hw'
      clear hw KF
      go_wp2_with (refine wpList_load_row rfl 32 _ rfl w.heap.size rfl 32 cs (0, 0) _ r0 Try.underlying32 rfl hi1 ?_)
      refine (KA2.out _ b0.out).mono ?_
      rintro e w1 ⟨v1, rfl, hg, hb⟩
      obtain ⟨ua, uc, e1⟩ := hg.shape
      dsimp only at hg e1
      rw [HNd.out] at e1
      subst e1
      have HB1 : Hid (Below w.heap.size w w1) := bel2 b0.out hb
      have HU1 : Hid (Tb w1 ua xs) := hg.tb
      have r1 := row_below hb r0
      have q1 := row_below hb q0
      clear hg hb KA2 r0 q0 b0
      go_wp2_with (refine wpList_load_row rfl 32 _ rfl w.heap.size rfl 32 cs (0, 0) _ r1 Try.underlying32 rfl hi1 ?_)
      refine (K1.out w1 ua uc HB1.out HU1.out).mono ?_
      rintro e w2 ⟨rfl, hb⟩
      have HB2 : Hid (Below w.heap.size w w2) := bel2 HB1.out hb
      have HU2 : Hid (Tb w2 ua xs) := HU1.out.below hb
      have r2 := row_below hb r1
      have q2 := row_below hb q1
      have n2 : (w2.alloc (.cells #[.int .i64 0, .string ⟨#[]⟩, .string ⟨#[]⟩, .string ⟨#[]⟩, .int .i64 0, .int .i64 0, .int .u64 0, .string ⟨#[]⟩, .slice none 0 0, .int .i64 0, .int .i64 0, .int .i64 0, .int .i64 0, .int .u64 0, .int .i64 0, .slice none 0 0, .slice none 0 0] 32)).heap[w2.heap.size]? = some (.cells #[.int .i64 0, .string ⟨#[]⟩, .string ⟨#[]⟩, .string ⟨#[]⟩, .int .i64 0, .int .i64 0, .int .u64 0, .string ⟨#[]⟩, .slice none 0 0, .int .i64 0, .int .i64 0, .int .i64 0, .int .i64 0, .int .u64 0, .int .i64 0, .slice none 0 0, .slice none 0 0] 32 (0, 0)) := heap_alloc_last w2 _
      clear hb K1 r1 q1 HB1 HU1
      go_upto_region 10 with (first | refine wpList_load_row rfl 32 _ rfl w.heap.size rfl 32 cs (0, 0) _ r2 Try.underlying32 rfl hi1 ?_ | refine wpList_store_row rfl 32 _ _ rfl w2.heap.size cs rfl rfl 32 _ n2 hi1 hz0 ho1 ?_)
      rw [World.setRow_alloc_new]
      have hb3 := bel1 w2 (.cells cs 32)
      have HB3 : Hid (Below w.heap.size w (w2.alloc (.cells cs 32))) := bel2 HB2.out hb3
      have HU3 : Hid (Tb (w2.alloc (.cells cs 32)) ua xs) := HU2.out.below hb3
      have r3 := row_below hb3 r2
      have q3 := row_below hb3 q2
      have o3 : (w2.alloc (.cells cs 32)).heap[w2.heap.size]? = some (.cells cs 32 (0, 0)) := heap_alloc_last w2 _
      have HS3 : Hid (w.heap.size + 1 < w2.heap.size) := lt_of_row q2
      have HB3' : Hid (Below w2.heap.size w2 (w2.alloc (.cells cs 32))) := hb3
      clear hb3 n2 hz0 ho1 r2 q2
      generalize w2.alloc (.cells cs 32) = W3 at HB3 HU3 r3 q3 o3 HB3' ⊢
      have x3 : W3.cell? ⟨w2.heap.size, 0, none⟩ = some (.int .i64 r.kind) := row_cell o3 HE0.out
      have f3 := row_frozen o3 0
      go_upto_region 11 with fail
      have k4 := KB.setCell w2.heap.size W3 0 (.int .i64 (wrap64 (r.kind + 1)))
      have o4 := heap_setCell_same W3 w2.heap.size 0 _ 32 (.int .i64 (wrap64 (r.kind + 1))) o3
      have r4 := row_kb r3 k4 (by have := HS3.out; omega)
      have q4 := row_kb q3 k4 (by have := HS3.out; omega)
      have hb4 : Below w2.heap.size w2 (W3.setCell ⟨w2.heap.size, 0, none⟩ (.int .i64 (wrap64 (r.kind + 1)))) := HB3'.out.trans (k4.below (Nat.le_refl _) HB3'.out.size)
      have HB4 : Hid (Below w.heap.size w (W3.setCell ⟨w2.heap.size, 0, none⟩ (.int .i64 (wrap64 (r.kind + 1))))) := bel2 HB2.out hb4
      have HU4 : Hid (Tb (W3.setCell ⟨w2.heap.size, 0, none⟩ (.int .i64 (wrap64 (r.kind + 1)))) ua xs) := HU2.out.below hb4
      clear hb4 k4 x3 f3 o3 r3 q3 HB3 HU3 HB3'
      generalize W3.setCell ⟨w2.heap.size, 0, none⟩ (.int .i64 (wrap64 (r.kind + 1))) = W4 at o4 r4 q4 HB4 HU4 ⊢
      go_wp2_with (refine wpList_load_row rfl 32 _ rfl w2.heap.size rfl 32 _ (0, 0) _ o4 Try.underlying32 rfl hib ?_)
      refine (K2.out W4 ua uc HB4.out HU4.out).mono ?_
      rintro e w5 ⟨rfl, hb⟩
      have HB5 : Hid (Below w.heap.size w w5) := bel2 HB4.out hb
      have HU5 : Hid (Tb w5 ua xs) := HU4.out.below hb
      have r5 := row_below hb r4
      have q5 := row_below hb q4
      have y5 : w5.cell? ⟨w.heap.size, 2, none⟩ = some (.string r.req) := row_cell r5 c2
      have z5 : w5.cell? ⟨w.heap.size + 1, 2, none⟩ = some (.string s.req) := row_cell q5 s2
      clear hb K2 r4 q4 o4 HB4 HU4 c2 s2
      cases hse : (s.req.toList == r.req.toList) with
      | true =>
        go_wp2_with fail
        refine (KW.out w5).mono ?_
        rintro e w6 ⟨rfl, hb⟩
        have HB6 : Hid (Below w.heap.size w w6) := bel2 HB5.out hb
        clear hb
        go_wp2_with fail
        go_ret
        exact ⟨rfl, HB6.out⟩
      | false =>
        have K4 : Hid (∀ W b d, Below w.heap.size w W → Tb W b xs → Calls Try.prog 11 #[.slice b (n + 1) d, .agg ss] W (AkP W (qn, qe))) := K3.out (by rw [HSq.out]; exact hse)
        clear K3
        go_wp2_with (refine wpList_load_row rfl 32 _ rfl (w.heap.size + 1) rfl 32 ss (0, 0) _ q5 Try.underlying32 rfl hi2 ?_)
        refine (KQ.out w5 HB5.out).mono ?_
        rintro e w6 ⟨rfl, hb⟩
        have HB6 : Hid (Below w.heap.size w w6) := bel2 HB5.out hb
        have HU6 : Hid (Tb w6 ua xs) := HU5.out.below hb
        have q6 := row_below hb q5
        clear hb KQ q5 r5 y5 z5 HU5
        go_wp2_with (refine wpList_load_row rfl 32 _ rfl (w.heap.size + 1) rfl 32 ss (0, 0) _ q6 Try.underlying32 rfl hi2 ?_)
        refine (K4.out w6 ua uc HB6.out HU6.out).mono ?_
        rintro e w7 ⟨rfl, hb⟩
        have HB7 : Hid (Below w.heap.size w w7) := bel2 HB6.out hb
        clear hb K4 q6
        go_wp2_with fail
        refine (KW.out w7).mono ?_
        rintro e w8 ⟨rfl, hb⟩
        have HB8 : Hid (Below w.heap.size w w8) := bel2 HB7.out hb
        clear hb
        go_wp2_with fail
        go_ret
        exact ⟨rfl, HB8.out⟩
  · have d60 : decide (n ≤ 60) = false := decide_eq_false h60
    clear h60 h hr hs hy hn
    go_enter Try.func5, Try.ntmps5
    go_upto_region 1 with fail
    change Code.wp _ _ _ _ ((w.alloc (.cells cs 32)).alloc (.cells ss 32))
    generalize (w.alloc (.cells cs 32)).alloc (.cells ss 32) = W0 at b0 r0 q0 ⊢
    go_wp2_with fail
    refine (KF.out W0).mono ?_
    rintro e w1 ⟨rfl, hw⟩
    have hw' := hw.symm
    subst hw'
    clear hw KF
    go_wp2_with fail
    refine (KW.out _).mono ?_
    rintro e w2 ⟨rfl, hb⟩
    have HB2 : Hid (Below w.heap.size w w2) := bel2 b0.out hb
    clear hb
    go_wp2_with fail
    go_ret
    exact ⟨rfl, HB2.out⟩
end Go.Proofs.Ytlcgjehepalmcaa
