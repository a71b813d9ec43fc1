/- The contracts of Find and placeOf. -/
import Derived.Test.YtlcgjehepalmcaaTA
namespace Go.Proofs.Ytlcgjehepalmcaa
open Go.ChangeShapes Go.WideShapes Go.ChangeAt Go.RowKit
/-- What Find answers. -/
def FdP (w : World) (o : Option Dn) (e : Ending) (w' : World) : Prop :=
  (∀ d, o = some d → ∃ p c, e = .returned (.tuple #[.agg #[.string d.s, .int .i64 d.k, .slice p d.y.length c, .int .i64 d.r], .bool true]) ∧ Own w.heap.size w' (.slice p d.y.length c) d.y) ∧
  (o = none → e = .returned (.tuple #[.agg #[.string ⟨#[]⟩, .int .i64 0, .slice none 0 0, .int .i64 0], .bool false])) ∧ Below w.heap.size w w'
/-- The first one of that Request. -/
def fnd (ds : List Dn) (q : ByteArray) : Option Dn := ds.find? fun d => eqS d.s q
theorem fnd_some {ds : List Dn} {q : ByteArray} {j : Nat} {d : Dn} (h : ds[j]? = some d) (hp : eqS d.s q = true) (hf : ∀ i d, i < j → ds[i]? = some d → eqS d.s q = false) : fnd ds q = some d := by
  obtain ⟨hj, rfl⟩ := List.getElem?_eq_some_iff.1 h
  refine List.find?_eq_some_iff_getElem.2 ⟨hp, j, hj, rfl, fun i hi => ?_⟩
  rw [hf i _ hi (List.getElem?_eq_getElem (by omega))]
  rfl
theorem fnd_none {ds : List Dn} {q : ByteArray} (h : ∀ d ∈ ds, eqS d.s q = false) : fnd ds q = none := by
  refine List.find?_eq_none.2 fun d hd => ?_
  rw [h d hd]
  decide
set_option maxHeartbeats 2000000 in
set_option maxRecDepth 100000 in
theorem find_calls (q : ByteArray) (ds : List Dn) (a : Option Addr) (n c : Nat) (hn : ds.length = n) (hs : n ≤ 1000) (hy : ∀ d ∈ ds, d.y.length ≤ 140737488355328) (w : World) (h : Tb w a ds) :
    Calls Try.prog 9 #[.slice a n c, .string q] w (FdP w (fnd ds q)) := by
  have HI : Hid (Tb w a ds) := h
  have HN : Hid (ds.length = n) := hn
  have HS : Hid (n ≤ 1000) := hs
  have HY : Hid (∀ d ∈ ds, d.y.length ≤ 140737488355328) := hy
  have b0 : Hid (Below w.heap.size w ((w.alloc (.cells #[.string q] 9)).alloc (.cells #[.string ⟨#[]⟩, .int .i64 0, .slice none 0 0, .int .i64 0] 37))) := bel2 (bel1 _ _) (bel1 _ _)
  have r0 : ((w.alloc (.cells #[.string q] 9)).alloc (.cells #[.string ⟨#[]⟩, .int .i64 0, .slice none 0 0, .int .i64 0] 37)).heap[w.heap.size]? = some (.cells #[.string q] 9 (0, 0)) := old2 _ _ _
  have r1 : ((w.alloc (.cells #[.string q] 9)).alloc (.cells #[.string ⟨#[]⟩, .int .i64 0, .slice none 0 0, .int .i64 0] 37)).heap[w.heap.size + 1]? = some (.cells #[.string ⟨#[]⟩, .int .i64 0, .slice none 0 0, .int .i64 0] 37 (0, 0)) := new2 _ _ _
  have HQ1 : Hid (∀ (j : Nat) (d : Dn) p c w', ds[j]? = some d → eqS d.s q = true → (∀ i d, i < j → ds[i]? = some d → eqS d.s q = false) → Own w.heap.size w' (.slice p d.y.length c) d.y → Below w.heap.size w w' → FdP w (fnd ds q) (.returned (.tuple #[.agg #[.string d.s, .int .i64 d.k, .slice p d.y.length c, .int .i64 d.r], .bool true])) w') := fun j d p c w' h1 h2 h3 h4 h5 => by
    rw [fnd_some h1 h2 h3]
    exact ⟨fun d' e => (by cases e; exact ⟨p, c, rfl, h4⟩), (fun e => by cases e), h5⟩
  have HQ2 : Hid (∀ w', (∀ d ∈ ds, eqS d.s q = false) → Below w.heap.size w w' → FdP w (fnd ds q) (.returned (.tuple #[.agg #[.string ⟨#[]⟩, .int .i64 0, .slice none 0 0, .int .i64 0], .bool false])) w') := fun w' h1 h2 => by
    rw [fnd_none h1]
    exact ⟨(fun d e => by cases e), fun _ => rfl, h2⟩
  generalize FdP w (fnd ds q) = Q at HQ1 HQ2 ⊢
  clear h hn hs hy
  go_enter Try.func9, Try.ntmps9
  go_upto_region 1 with fail
  change Code.wp _ _ _ _ ((w.alloc (.cells #[.string q] 9)).alloc (.cells #[.string ⟨#[]⟩, .int .i64 0, .slice none 0 0, .int .i64 0] 37))
  generalize (w.alloc (.cells #[.string q] 9)).alloc (.cells #[.string ⟨#[]⟩, .int .i64 0, .slice none 0 0, .int .i64 0] 37) = W0 at b0 r0 r1 ⊢
  have KI : Hid (Calls Try.prog 21 #[.slice a n c, .func (.func 22) #[] #[.pointer (some ⟨w.heap.size, 0, none⟩)]] W0 (IxP (fun d => eqS d.s q) ds W0)) := ix22_calls q ds a n c HN.out HS.out w.heap.size W0 (HI.out.below b0.out) (row_cell r0 rfl)
  go_wp2_with fail
  refine KI.out.mono ?_
  rintro e w1 ⟨⟨j, d, rfl, hj, hp, hf⟩ | ⟨rfl, hf⟩, hb⟩
  · have s1 := row_below hb r1
    have HJ : Hid (ds[j]? = some d ∧ eqS d.s q = true ∧ ∀ i d, i < j → ds[i]? = some d → eqS d.s q = false) := ⟨hj, hp, hf⟩
    have HB : Hid (Below w.heap.size w w1) := bel2 b0.out hb
    have hjn : j < n := by have := (List.getElem?_eq_some_iff.1 hj).1; have := HN.out; omega
    have hn9 : n ≤ 1000 := HS.out
    obtain ⟨B, o, p, cc, rfl, ⟨e0, e1, e2, e3⟩, hh⟩ := (HI.out.below HB.out) j d hj
    have KC : Hid (Calls Try.prog 23 #[.agg #[.string d.s, .int .i64 d.k, .slice p d.y.length cc, .int .i64 d.r]] w1 (ClP w1 d)) := clone_calls d p cc w1 hh (HY.out d (List.mem_of_getElem? hj))
    have hd0 : decide ((j : Int) < 0) = false := decide_eq_false (by omega)
    clear hb hj hp hf hh KI r0 r1
    go_wp2_with fail
    refine KC.out.mono ?_
    rintro e w2 ⟨p', c', rfl, ho, hb⟩
    have t1 := row_below hb s1
    have HO : Hid (Own w1.heap.size w2 (.slice p' d.y.length c') d.y) := ho
    have HB2 : Hid (Below w.heap.size w w2) := bel2 HB.out hb
    have HL : Hid (w.heap.size + 1 < w1.heap.size) := lt_of_row s1
    clear ho hb KC e0 e1 e2 e3
    have hz : (#[.string ⟨#[]⟩, .int .i64 0, .slice none 0 0, .int .i64 0] : Array Value).size = (#[.string d.s, .int .i64 d.k, .slice p' d.y.length c', .int .i64 d.r] : Array Value).size := rfl
    have ha := one4 d.s d.k p' d.y.length c' d.r
    go_wp2_with (refine wpList_store_row rfl 37 _ _ rfl (w.heap.size + 1) _ rfl rfl 37 _ t1 info37s hz ha ?_)
    have k9 := setRow_heap w2 (w.heap.size + 1) _ #[.string d.s, .int .i64 d.k, .slice p' d.y.length c', .int .i64 d.r] 37 (0, 0) t1
    have hl : (loadVar 37 ⟨w.heap.size + 1, 0, none⟩).run Try.prog (w2.setRow (w.heap.size + 1) #[.string d.s, .int .i64 d.k, .slice p' d.y.length c', .int .i64 d.r]) = .ok _ _ := run_loadVar_row _ (w.heap.size + 1) 37 37 _ (0, 0) _ k9 Try.underlying37 rfl info37s
    exact bodyPost_ret (ret_cell_tmp Try.results9 _ rfl rfl hl) rfl (HQ1.out j d p' c' _ HJ.out.1 HJ.out.2.1 HJ.out.2.2 (own_lower (own_kb HO.out (KB.setRow _ _ _) HL.out) (by have := HL.out; omega)) (below_setRow (g := w.heap.size + 1) HB2.out (by omega) _))
  · have s1 := row_below hb r1
    have HF : Hid (∀ d ∈ ds, eqS d.s q = false) := hf
    have HB : Hid (Below w.heap.size w w1) := bel2 b0.out hb
    clear hb hf KI r0 r1
    go_wp2_with (refine wpList_store_row rfl 37 _ _ rfl (w.heap.size + 1) _ rfl rfl 37 _ s1 info37s rfl (one4 _ _ _ _ _ _) ?_)
    have k9 := setRow_heap w1 (w.heap.size + 1) _ #[.string ⟨#[]⟩, .int .i64 0, .slice none 0 0, .int .i64 0] 37 (0, 0) s1
    have hl : (loadVar 37 ⟨w.heap.size + 1, 0, none⟩).run Try.prog (w1.setRow (w.heap.size + 1) #[.string ⟨#[]⟩, .int .i64 0, .slice none 0 0, .int .i64 0]) = .ok _ _ := run_loadVar_row _ (w.heap.size + 1) 37 37 _ (0, 0) _ k9 Try.underlying37 rfl info37s
    refine bodyPost_ret (v := .tuple #[.agg #[.string ⟨#[]⟩, .int .i64 0, .slice none 0 0, .int .i64 0], .bool false]) (ret_cell_tmp Try.results9 _ rfl rfl hl) rfl ?_
    exact HQ2.out _ HF.out (below_setRow (g := w.heap.size + 1) HB.out (by omega) _)
/-- The place of the first one whose Request is above q, the end if there is none. -/
def plc (ds : List Dn) (q : ByteArray) : Nat := ds.findIdx fun d => gtS d.s q
theorem plc_some {ds : List Dn} {q : ByteArray} {j : Nat} {d : Dn} (h : ds[j]? = some d) (hp : gtS d.s q = true) (hf : ∀ i d, i < j → ds[i]? = some d → gtS d.s q = false) : plc ds q = j := by
  obtain ⟨hj, rfl⟩ := List.getElem?_eq_some_iff.1 h
  exact (List.findIdx_eq hj).2 ⟨hp, fun i hi => hf i _ hi (List.getElem?_eq_getElem (by omega))⟩
theorem plc_none {ds : List Dn} {q : ByteArray} (h : ∀ d ∈ ds, gtS d.s q = false) : plc ds q = ds.length := List.findIdx_eq_length.2 h
theorem plc_le (ds : List Dn) (q : ByteArray) : plc ds q ≤ ds.length := List.findIdx_le_length
set_option maxHeartbeats 2000000 in
set_option maxRecDepth 100000 in
theorem place_calls (q : ByteArray) (ds : List Dn) (a : Option Addr) (n c : Nat) (hn : ds.length = n) (hs : n ≤ 1000) (w : World) (h : Tb w a ds) :
    Calls Try.prog 28 #[.slice a n c, .string q] w fun e w' => e = .returned (.int .i64 (plc ds q : Nat)) ∧ Below w.heap.size w w' := by
  have HN : Hid (ds.length = n) := hn
  have HS : Hid (n ≤ 1000) := hs
  have hb0 := bel1 w (.cells #[.string q] 9)
  have b0 : Hid (Below w.heap.size w (w.alloc (.cells #[.string q] 9))) := hb0
  have KI : Hid (Calls Try.prog 21 #[.slice a n c, .func (.func 45) #[] #[.pointer (some ⟨w.heap.size, 0, none⟩)]] (w.alloc (.cells #[.string q] 9)) (IxP (fun d => gtS d.s q) ds (w.alloc (.cells #[.string q] 9)))) := ix45_calls q ds a n c HN.out HS.out w.heap.size _ (h.below hb0) (by simp)
  have HQ1 : Hid (∀ (j : Nat) (d : Dn), ds[j]? = some d → gtS d.s q = true → (∀ i d, i < j → ds[i]? = some d → gtS d.s q = false) → plc ds q = j) := fun j d h1 h2 h3 => plc_some h1 h2 h3
  have HQ2 : Hid ((∀ d ∈ ds, gtS d.s q = false) → plc ds q = n) := fun h => (plc_none h).trans hn
  generalize plc ds q = N at HQ1 HQ2 ⊢
  clear h hn hs hb0
  go_enter Try.func28, Try.ntmps28
  go_wp2_with fail
  refine KI.out.mono ?_
  rintro e w1 ⟨⟨j, d, rfl, hj, hp, hf⟩ | ⟨rfl, hf⟩, hb⟩
  · obtain rfl := HQ1.out j d hj hp hf
    have HB : Hid (Below w.heap.size w w1) := bel2 b0.out hb
    have hd0 : decide ((N : Int) < 0) = false := decide_eq_false (by omega)
    clear hb hj hp hf KI
    go_wp2_with fail
    go_ret
    exact ⟨rfl, HB.out⟩
  · obtain rfl := HQ2.out hf
    have HB : Hid (Below w.heap.size w w1) := bel2 b0.out hb
    clear hb hf KI
    go_wp2_with fail
    go_ret
    exact ⟨rfl, HB.out⟩
end Go.Proofs.Ytlcgjehepalmcaa
