/- A call as the document says; calls that came in. -/
import Derived.Test.YtocjgcjechhehaaLG
import Derived.Test.YtocjgcjechhehaaLD
import Derived.Test.YtocjgcjechhehaaV
namespace Go.Proofs.Ytocjgcjechhehaa
open Go.ChangeAt Go.ChangeShapes Go.Deep Go.RowKit Go.WideShapes
set_option maxHeartbeats 8000000 in
set_option maxRecDepth 100000 in
theorem by_calls (n : Nat) (cs : Array Value) (d : Dy) (a : Option Addr) (c m : Nat) (us : List Wt) (hm : us.length = m) (hl : m ≤ 1000) (w : World) (h : IsD w n cs d) (hR : LsW w n a us) (hs : ∀ y ∈ us, SmX n y) (h6 : d.az.length ≤ 60 ∧ d.kz.length ≤ 60) :
    Calls Try.prog 9 #[.agg cs, .slice a m c] w (RetW n w (onL d us)) := by
  have HB0 : Hid (Below w.heap.size w (w.alloc (.cells cs 33))) := bel1 w _
  have hrow : (w.alloc (.cells cs 33)).heap[w.heap.size]? = some (.cells cs 33 (0, 0)) := heap_alloc_new w _
  obtain ⟨ws, hw1, hw2⟩ := h.wt
  obtain ⟨la, lc, h24, hA⟩ := h.az
  obtain ⟨lk, lkc, h25, hK⟩ := h.kz
  have e0 : (w.alloc (.cells cs 33)).cell? ⟨w.heap.size, 0, none⟩ = some (.int .i64 d.op) := row_cell hrow h.c0
  have e1 : (w.alloc (.cells cs 33)).cell? ⟨w.heap.size, 1, none⟩ = some (.int .i64 d.n) := row_cell hrow h.c1
  have e2 : (w.alloc (.cells cs 33)).cell? ⟨w.heap.size, 2, none⟩ = some (.int .i64 d.run) := row_cell hrow h.c2
  have e3 : (w.alloc (.cells cs 33)).cell? ⟨w.heap.size, 3, none⟩ = some (.int .i64 d.upto) := row_cell hrow h.c3
  have e4 : (w.alloc (.cells cs 33)).cell? ⟨w.heap.size, 4, none⟩ = some (.string d.flow) := row_cell hrow h.c4
  have e24 : (w.alloc (.cells cs 33)).cell? ⟨w.heap.size, 24, none⟩ = some (.slice la d.az.length lc) := row_cell hrow h24
  have e25 : (w.alloc (.cells cs 33)).cell? ⟨w.heap.size, 25, none⟩ = some (.slice lk d.kz.length lkc) := row_cell hrow h25
  have hrng : (w.alloc (.cells cs 33)).rangeAt w.heap.size 5 ws.toList := fun j v hj => row_cell hrow (hw1 j v (by simpa using hj))
  have hi29 : (Try.prog.info? 29).map (·.size) = some ws.toList.length := by rw [Array.length_toList]; exact info29s ws hw2.size
  have K0 : Hid (∀ W, Below w.heap.size w W → Calls Try.prog 25 #[.slice a m c, .agg ws] W (RetW n W (addL d.w us))) := fun W hW => radd_calls n a c m us hm hl ws d.w W (hR.below hW) hs (hw2.map fun _ _ h => h.below hW) h.sw
  have K1 : Hid (∀ W, Below w.heap.size w W → Calls Try.prog 26 #[.slice a m c, .int .i64 d.n] W (RetW n W (dropL d.n us))) := fun W hW => (rdrop_calls n a c m us hm hl d.n W (hR.below hW) hs).mono fun e w' ⟨v, h1, h2, h3⟩ => by rw [h1]; exact h2.ret h3
  have K2 : Hid (∀ W, Below w.heap.size w W → Calls Try.prog 27 #[.slice a m c, .string d.flow, .int .i64 d.run, .int .i64 d.n, .int .i64 d.upto] W (RetW n W (us.map (hnd d.n d.flow d.run d.upto)))) := fun W hW => rhand_calls n a c m us hm hl d.flow d.run d.n d.upto W (hR.below hW) hs
  have K3 : Hid (∀ W, Below w.heap.size w W → Calls Try.prog 28 #[.slice a m c, .int .i64 d.n, .slice la d.az.length lc] W (RetW n W (us.map (ans d.n d.az)))) := fun W hW => ranswer_calls n a c m us hm hl d.n la lc _ d.az rfl (by omega) W (hR.below hW) hs (hA.below hW) h.sa
  have K4 : Hid (∀ W, Below w.heap.size w W → Calls Try.prog 29 #[.slice a m c, .string d.flow, .int .i64 d.run, .slice lk d.kz.length lkc] W (RetW n W (us.map (refu d.flow d.run d.kz)))) := fun W hW => rrefuse_calls n a c m us hm hl d.flow d.run lk lkc _ d.kz rfl (by omega) W (hR.below hW) hs (hK.below hW) h.sk
  have HF : Hid (∀ xs W, Below w.heap.size w W → ∀ e W', RetW n W xs e W' → RetW n w xs e W' ∧ ∃ v, e = .returned v) := fun xs W hW e W' h => ⟨h.from hW, by obtain ⟨a, c, h1, _⟩ := h; exact ⟨_, h1⟩⟩
  have HO : Hid (onL d us = if opU d.op = 0 then addL d.w us else if opU d.op = 1 then dropL d.n us else if opU d.op = 2 then us.map (hnd d.n d.flow d.run d.upto) else if opU d.op = 3 then us.map (ans d.n d.az) else us.map (refu d.flow d.run d.kz)) := rfl
  have HU : Hid (opU d.op = (IntKind.u64.wrap d.op).tmod 5) := rfl
  generalize onL d us = ys at HO ⊢
  generalize addL d.w us = y0 at K0 HO
  generalize dropL d.n us = y1 at K1 HO
  generalize us.map (hnd d.n d.flow d.run d.upto) = y2 at K2 HO
  generalize us.map (ans d.n d.az) = y3 at K3 HO
  generalize us.map (refu d.flow d.run d.kz) = y4 at K4 HO
  generalize hpl : d.az.length = pl at e24 K3
  generalize hql : d.kz.length = ql at e25 K4
  clear hpl hql h hw1 hw2 hA hK h24 h25 hR hs hm hl h6
  go_enter Try.func9, Try.ntmps9
  go_upto_region 1 with fail
  generalize w.alloc (.cells cs 33) = W0 at HB0 e0 e1 e2 e3 e4 e24 e25 hrow hrng ⊢
  go_upto_region 2 with fail
  rw [← HU.out]
  generalize opU d.op = u at HO HU ⊢
  clear HU
  by_cases u0 : u = 0
  · subst u0
    obtain rfl : ys = y0 := by rw [HO.out]; rfl
    have KX : Hid (Calls Try.prog 25 _ W0 _) := K0.out W0 HB0.out
    go_wp2_with (refine wpList_load_mid rfl 29 _ rfl w.heap.size 5 rfl ws.toList _ hrng Try.underlying29 rfl hi29 ?_)
    refine KX.out.mono ?_
    intro e W' h
    obtain ⟨h', v, rfl⟩ := HF.out _ _ HB0.out _ _ h
    have H' : Hid (RetW n w ys (.returned v) W') := h'
    clear h h'
    go_wp2_with fail
    go_ret
    exact H'.out
  · have f0 : (u == 0) = false := by simpa using u0
    by_cases u1 : u = 1
    · subst u1
      obtain rfl : ys = y1 := by rw [HO.out]; rfl
      have KX : Hid (Calls Try.prog 26 _ W0 _) := K1.out W0 HB0.out
      go_wp2_with fail
      refine KX.out.mono ?_
      intro e W' h
      obtain ⟨h', v, rfl⟩ := HF.out _ _ HB0.out _ _ h
      have H' : Hid (RetW n w ys (.returned v) W') := h'
      clear h h'
      go_wp2_with fail
      go_ret
      exact H'.out
    · have f1 : (u == 1) = false := by simpa using u1
      by_cases u2 : u = 2
      · subst u2
        obtain rfl : ys = y2 := by rw [HO.out]; rfl
        have KX : Hid (Calls Try.prog 27 _ W0 _) := K2.out W0 HB0.out
        go_wp2_with fail
        refine KX.out.mono ?_
        intro e W' h
        obtain ⟨h', v, rfl⟩ := HF.out _ _ HB0.out _ _ h
        have H' : Hid (RetW n w ys (.returned v) W') := h'
        clear h h'
        go_wp2_with fail
        go_ret
        exact H'.out
      · have f2 : (u == 2) = false := by simpa using u2
        by_cases u3 : u = 3
        · subst u3
          obtain rfl : ys = y3 := by rw [HO.out]; rfl
          have KX : Hid (Calls Try.prog 28 _ W0 _) := K3.out W0 HB0.out
          go_wp2_with fail
          refine KX.out.mono ?_
          intro e W' h
          obtain ⟨h', v, rfl⟩ := HF.out _ _ HB0.out _ _ h
          have H' : Hid (RetW n w ys (.returned v) W') := h'
          clear h h'
          go_wp2_with fail
          go_ret
          exact H'.out
        · have f3 : (u == 3) = false := by simpa using u3
          obtain rfl : ys = y4 := by rw [HO.out, if_neg u0, if_neg u1, if_neg u2, if_neg u3]
          have KX : Hid (Calls Try.prog 29 _ W0 _) := K4.out W0 HB0.out
          clear u0 u1 u2 u3
          go_wp2_with fail
          refine KX.out.mono ?_
          intro e W' h
          obtain ⟨h', v, rfl⟩ := HF.out _ _ HB0.out _ _ h
          have H' : Hid (RetW n w ys (.returned v) W') := h'
          clear h h'
          go_wp2_with fail
          go_ret
          exact H'.out
/-- Calls that are read. -/
def LsD (w : World) (n : Nat) (a : Option Addr) (ds : List Dy) : Prop := ∀ (i : Nat) d, ds[i]? = some d → ∃ B o cs, a = some ⟨B, o, none⟩ ∧ Lies w B (o + i * 26) cs ∧ IsD w n cs d
theorem LsD.below {w w' : World} {n : Nat} {a : Option Addr} {ds : List Dy} (h : LsD w n a ds) (hb : Below w.heap.size w w') : LsD w' n a ds := fun i x hx => by
  obtain ⟨B, o, cs, ha, hl, hi⟩ := h i x hx
  exact ⟨B, o, cs, ha, hl.below hb, hi.below hb⟩
theorem LsD.up {W : World} {n m : Nat} {a : Option Addr} {l : List Dy} (h : LsD W n a l) (hn : n ≤ m) : LsD W m a l := fun i x hx => by
  obtain ⟨B, o, cs, h1, h2, h3⟩ := h i x hx
  exact ⟨B, o, cs, h1, h2, h3.up hn⟩
theorem open_dos {H : Type} {enc : TypeId × Value → H} {W : World} {base : Nat} {spare : Nat → Bool} {held : Bool} (fuel : Nat) (cs : List Value) (x : DataW H × List MemPlace) (h : DataW.trod enc Try.prog W base spare held fuel 23 cs = some x) (hwt : ∀ y ∈ x.1.weights Try.prog 23, y ≤ reachBytes) :
    ∃ (a : Option Addr) (c : Nat) (l : List Dy) (n : Nat), cs = [.slice a l.length c] ∧ (l.length ≤ c ∧ l.length ≤ 9223372036854775807) ∧ LsD W (n + 1) a l := by
  have hcap : ∀ a n c, cs = [.slice a n c] → n ≤ c := fun a n c e => by
    rcases DataW.trod_slice Try.underlying23 h with ⟨h4, _⟩ | ⟨a', len, cap, elems, rest, q, hq, h4, _, _, hl, _⟩
    · rw [e] at h4; cases h4; exact Nat.le_refl _
    · rw [e] at h4; cases h4; exact hl
  obtain ⟨a, cap, q, rows, hcs, hmax, hr⟩ := open_rows Try.underlying23 cellsC33 (by decide) fuel _ _ h hwt
  have inh : Inhabited (Dy × Nat) := ⟨⟨0, 0, 0, 0, ⟨#[]⟩, zX, [], []⟩, 0⟩
  have each : ∀ i, i < rows.length → ∃ u : Dy × Nat, ∃ r, rows[i]? = some r ∧ IsD W u.2 r.toArray u.1 := fun i hi => by
    obtain ⟨_, _, y, hy, hz⟩ := hr i _ (List.getElem?_eq_getElem hi)
    obtain ⟨e, n, g⟩ := open_do _ _ _ hy hz
    exact ⟨(e, n), _, List.getElem?_eq_getElem hi, g⟩
  obtain ⟨F, hF⟩ := choose_lt each
  obtain ⟨N, hN⟩ := fuel_lt (n := rows.length) (q := fun i N => (F i).2 ≤ N) (fun _ _ _ h h' => Nat.le_trans h' h) (fun i _ => ⟨_, Nat.le_refl _⟩)
  have hl : ((List.range rows.length).map fun i => (F i).1).length = rows.length := by simp
  have hget : ∀ (i : Nat) e, ((List.range rows.length).map fun i => (F i).1)[i]? = some e → i < rows.length ∧ e = (F i).1 := fun i e h => by
    have hi : i < rows.length := by have := (List.getElem?_eq_some_iff.1 h).1; simpa using this
    rw [List.getElem?_map, List.getElem?_range hi] at h
    cases h
    exact ⟨hi, rfl⟩
  refine ⟨a, cap, (List.range rows.length).map fun i => (F i).1, N, by rw [hl]; exact hcs, ⟨by rw [hl]; exact hcap _ _ _ hcs, by rw [hl]; exact hmax⟩, fun i e he => ?_⟩
  · obtain ⟨hi, rfl⟩ := hget i e he
    obtain ⟨r', hr', g⟩ := hF i hi
    obtain ⟨h1, ⟨B, o, h2, h3⟩, _⟩ := hr i _ hr'
    exact ⟨B, o, r'.toArray, h2, fun j v hj => h3 j v (by simpa using hj), g.up (by have := hN i hi; omega)⟩
theorem onL_len (d : Dy) (us : List Wt) : (onL d us).length ≤ us.length + 1 := by
  unfold onL
  split
  · exact add_len _ _
  · split
    · have := dropL_len d.n us; omega
    · split
      · simp
      · split <;> simp
theorem onL_sm {W : World} {n : Nat} {cs : Array Value} {d : Dy} {us : List Wt} (h : IsD W n cs d) (hs : ∀ y ∈ us, SmX n y) : ∀ y ∈ onL d us, SmX n y := by
  have key : ∀ f : Wt → Wt, (∀ x, SmX n x → SmX n (f x)) → ∀ y ∈ us.map f, SmX n y := fun f hf y hy => by
    obtain ⟨x, hx, rfl⟩ := List.mem_map.1 hy
    exact hf x (hs x hx)
  unfold onL
  split
  · exact add_sm h.sw hs
  · split
    · exact fun y hy => hs y (dropL_mem hy)
    · split
      · refine key _ fun x hx => ?_
        unfold hnd
        split
        · exact hx
        · exact hx
      · split
        · refine key _ fun x hx => ?_
          unfold ans
          split
          · split
            · rename_i e he
              exact ⟨hx.1, h.sa e (List.mem_of_find?_eq_some he)⟩
            · exact hx
          · exact hx
        · refine key _ fun x hx => ?_
          unfold refu
          split
          · split
            · rename_i e he
              exact ⟨hx.1, h.sk e (List.mem_of_find?_eq_some he)⟩
            · exact hx
          · exact hx
end Go.Proofs.Ytocjgcjechhehaa
