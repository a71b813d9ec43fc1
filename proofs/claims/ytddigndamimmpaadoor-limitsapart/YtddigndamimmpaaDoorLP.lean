/- limits: the walk of LimitsApart. -/
import Derived.Test.YtddigndamimmpaaDoorLH
import Derived.Test.YtddigndamimmpaaDoorLS
import Derived.Test.YtddigndamimmpaaDoorLO
namespace Go.Proofs.YtddigndamimmpaaDoor
open Go.ChangeShapes Go.WideShapes Go.ChangeAt Go.RowKit
theorem AtR.of_range {w : World} {B : Nat} {k : Int} {f q m : ByteArray} {vk vx vb : Int} {vs : ByteArray} {la : Option Addr} {ll lc : Nat} {ru nu wa pf : Int} {pc : Nat} {pm : Int} {ca : Option Addr} {cn cc : Nat} {aa : Option Addr} {an ac : Nat} (h : w.rangeAt B 0 [.int .i64 k, .string f, .string q, .string m, .int .i64 vk, .int .i64 vx, .int .u64 vb, .string vs, .slice la ll lc, .int .i64 ru, .int .i64 nu, .int .i64 wa, .int .i64 pf, .int .u64 (pc : Int), .int .i64 pm, .slice ca cn cc, .slice aa an ac]) : AtR w B k f q m vk vx vb vs la ll lc ru nu wa pf pc pm ca cn cc aa an ac := ⟨h 0 _ rfl, h 1 _ rfl, h 2 _ rfl, h 3 _ rfl, h 4 _ rfl, h 5 _ rfl, h 6 _ rfl, h 7 _ rfl, h 8 _ rfl, h 9 _ rfl, h 10 _ rfl, h 11 _ rfl, h 12 _ rfl, h 13 _ rfl, h 14 _ rfl, h 15 _ rfl, h 16 _ rfl⟩
theorem AtR.set9 {w : World} {B : Nat} {k : Int} {f q m : ByteArray} {vk vx vb : Int} {vs : ByteArray} {la : Option Addr} {ll lc : Nat} {ru nu wa pf : Int} {pc : Nat} {pm : Int} {ca : Option Addr} {cn cc : Nat} {aa : Option Addr} {an ac : Nat} (z : Int) (h : AtR w B k f q m vk vx vb vs la ll lc ru nu wa pf pc pm ca cn cc aa an ac) : AtR (w.setCell ⟨B, 9, none⟩ (.int .i64 z)) B k f q m vk vx vb vs la ll lc z nu wa pf pc pm ca cn cc aa an ac := by
  obtain ⟨x0, x1, x2, x3, x4, x5, x6, x7, x8, x9, x10, x11, x12, x13, x14, x15, x16⟩ := h
  refine ⟨?_, ?_, ?_, ?_, ?_, ?_, ?_, ?_, ?_, ?_, ?_, ?_, ?_, ?_, ?_, ?_, ?_⟩ <;> go_simp
theorem AtR.set1 {w : World} {B : Nat} {k : Int} {f q m : ByteArray} {vk vx vb : Int} {vs : ByteArray} {la : Option Addr} {ll lc : Nat} {ru nu wa pf : Int} {pc : Nat} {pm : Int} {ca : Option Addr} {cn cc : Nat} {aa : Option Addr} {an ac : Nat} (z : ByteArray) (h : AtR w B k f q m vk vx vb vs la ll lc ru nu wa pf pc pm ca cn cc aa an ac) : AtR (w.setCell ⟨B, 1, none⟩ (.string z)) B k z q m vk vx vb vs la ll lc ru nu wa pf pc pm ca cn cc aa an ac := by
  obtain ⟨x0, x1, x2, x3, x4, x5, x6, x7, x8, x9, x10, x11, x12, x13, x14, x15, x16⟩ := h
  refine ⟨?_, ?_, ?_, ?_, ?_, ?_, ?_, ?_, ?_, ?_, ?_, ?_, ?_, ?_, ?_, ?_, ?_⟩ <;> go_simp
theorem AtR.far {w : World} {B : Nat} {k : Int} {f q m : ByteArray} {vk vx vb : Int} {vs : ByteArray} {la : Option Addr} {ll lc : Nat} {ru nu wa pf : Int} {pc : Nat} {pm : Int} {ca : Option Addr} {cn cc : Nat} {aa : Option Addr} {an ac : Nat} (h : AtR w B k f q m vk vx vb vs la ll lc ru nu wa pf pc pm ca cn cc aa an ac) (a : Addr) (v : Value) (hn : a.block ≠ B) : AtR (w.setCell a v) B k f q m vk vx vb vs la ll lc ru nu wa pf pc pm ca cn cc aa an ac := by
  obtain ⟨x0, x1, x2, x3, x4, x5, x6, x7, x8, x9, x10, x11, x12, x13, x14, x15, x16⟩ := h
  exact ⟨(World.cell?_setCell_far _ _ _ _ hn).trans x0, (World.cell?_setCell_far _ _ _ _ hn).trans x1, (World.cell?_setCell_far _ _ _ _ hn).trans x2, (World.cell?_setCell_far _ _ _ _ hn).trans x3, (World.cell?_setCell_far _ _ _ _ hn).trans x4, (World.cell?_setCell_far _ _ _ _ hn).trans x5, (World.cell?_setCell_far _ _ _ _ hn).trans x6, (World.cell?_setCell_far _ _ _ _ hn).trans x7, (World.cell?_setCell_far _ _ _ _ hn).trans x8, (World.cell?_setCell_far _ _ _ _ hn).trans x9, (World.cell?_setCell_far _ _ _ _ hn).trans x10, (World.cell?_setCell_far _ _ _ _ hn).trans x11, (World.cell?_setCell_far _ _ _ _ hn).trans x12, (World.cell?_setCell_far _ _ _ _ hn).trans x13, (World.cell?_setCell_far _ _ _ _ hn).trans x14, (World.cell?_setCell_far _ _ _ _ hn).trans x15, (World.cell?_setCell_far _ _ _ _ hn).trans x16⟩
theorem wpList_store_mid {P : Program} {ops : Array Oper} {rest : List Oper} {o : Oper} {a : Act} {w : World} {Q : Exit → Act → World → Prop} (hw : Region.wanted o (yielded ops a.tmps) = true) (ty : TypeId) (x y : Operand) (ho : o.op = .store ty x y)
    (b off : Nat) (cells : Array Value) (hx : a.eval x = .pointer (some ⟨b, off, none⟩)) (hy : a.eval y = .agg cells) (ht : w.there b off cells.size) (hi : (P.info? ty).map (·.size) = some cells.size) (h1 : cells.all (·.oneCell') = true)
    (h : wpList P ops Q rest (a.put o.dst undef) (w.setCells b off cells.toList)) : wpList P ops Q (o :: rest) a w :=
  wpList_step fun _ hK => by rw [if_pos hw]; exact wp_store_mid ty x y ho b off cells hx hy ht hi h1 (hK _ _ h)
theorem ones17 (k : Int) (f q m : ByteArray) (vk vx vb : Int) (vs : ByteArray) (la : Option Addr) (ll lc : Nat) (ru nu wa pf : Int) (pc : Nat) (pm : Int) (ca : Option Addr) (cn cc : Nat) (aa : Option Addr) (an ac : Nat) : (#[.int .i64 k, .string f, .string q, .string m, .int .i64 vk, .int .i64 vx, .int .u64 vb, .string vs, .slice la ll lc, .int .i64 ru, .int .i64 nu, .int .i64 wa, .int .i64 pf, .int .u64 (pc : Int), .int .i64 pm, .slice ca cn cc, .slice aa an ac] : Array Value).all (·.oneCell') = true := by simp [Value.oneCell']
theorem run_in (run : Int) : 1 ≤ wrap64 (1 + wrap64 ((IntKind.u64.wrap run).tmod 5)) ∧ wrap64 (1 + wrap64 ((IntKind.u64.wrap run).tmod 5)) ≤ 5 := by
  have h : 0 ≤ IntKind.u64.wrap run := by rw [IntKind.wrap_u64]; omega
  have h1 : 0 ≤ (IntKind.u64.wrap run).tmod 5 := Int.tmod_nonneg _ h
  have h2 : (IntKind.u64.wrap run).tmod 5 < 5 := Int.tmod_lt_of_pos _ (by decide)
  generalize (IntKind.u64.wrap run).tmod 5 = y at h1 h2
  unfold wrap64
  omega
/-- No cell of block B is frozen. -/
def Thaw (w : World) (B : Nat) : Prop := B < w.heap.size ∧ ∀ j : Nat, w.frozen? ⟨B, j, none⟩ = false
theorem Thaw.below {w w' : World} {B : Nat} (h : Thaw w B) (hb : Below w.heap.size w w') : Thaw w' B := ⟨Nat.lt_of_lt_of_le h.1 hb.size, fun j => (hb.frozen h.1).trans (h.2 j)⟩
theorem Thaw.new (w : World) (Z : Array Value) (t : TypeId) : Thaw (w.alloc (.cells Z t)) w.heap.size := ⟨by simp, fun j => by
  have h := heap_alloc_new w (.cells Z t)
  simp only [World.frozen?]
  rw [h]
  simp⟩
theorem Thaw.set {w : World} {B : Nat} (h : Thaw w B) (a : Addr) (v : Value) : Thaw (w.setCell a v) B := ⟨by simpa using h.1, fun j => by simpa using h.2 j⟩
theorem Thaw.sets {B g : Nat} : ∀ (vs : List Value) (o : Nat) (w : World), Thaw w B → Thaw (w.setCells g o vs) B
  | [], _, _, h => h
  | v :: vs, o, _, h => Thaw.sets vs (o + 1) _ (h.set ⟨g, o, none⟩ v)
theorem AtR.there {w : World} {B : Nat} {k : Int} {f q m : ByteArray} {vk vx vb : Int} {vs : ByteArray} {la : Option Addr} {ll lc : Nat} {ru nu wa pf : Int} {pc : Nat} {pm : Int} {ca : Option Addr} {cn cc : Nat} {aa : Option Addr} {an ac : Nat} (h : AtR w B k f q m vk vx vb vs la ll lc ru nu wa pf pc pm ca cn cc aa an ac) (ht : Thaw w B) : w.there B 0 17 := fun j hj => ⟨h.range.isSome j (by simpa using hj), by simpa using ht.2 j⟩
set_option maxHeartbeats 4000000 in
set_option maxRecDepth 100000 in
theorem apart_gen (bF : Bool) (r0 : Int) (h4 : Bool) (x : Int) (f2 : ByteArray) (k : Int) (f q m : ByteArray) (vk vx vb : Int) (vs : ByteArray) (la : Option Addr) (ll lc : Nat) (ru nu wa pf : Int) (pc : Nat) (pm : Int) (ca : Option Addr) (cn cc : Nat) (aa : Option Addr) (an ac : Nat) (run : Int) (w : World)
    (hf2 : (⟨#[46]⟩ : ByteArray) ++ f = f2)
    (hfs : r0 = 0 → f.size ≤ 24)
    (hx4 : ((IntKind.i64.wrap (x.tdiv 16)).tmod 2 == 1) = h4)
    (hFew : ∀ W, Calls Tryd.prog 6 #[.agg #[.int .i64 k, .string f, .string q, .string m, .int .i64 vk, .int .i64 vx, .int .u64 vb, .string vs, .slice la ll lc, .int .i64 ru, .int .i64 nu, .int .i64 wa, .int .i64 pf, .int .u64 (pc : Int), .int .i64 pm, .slice ca cn cc, .slice aa an ac]] W fun e w' => e = .returned (.bool bF) ∧ Below W.heap.size W w')
    (h7 : ∀ W, Below w.heap.size w W → Calls Tryd.prog 7 #[.agg #[.int .i64 k, .string f, .string q, .string m, .int .i64 vk, .int .i64 vx, .int .u64 vb, .string vs, .slice la ll lc, .int .i64 ru, .int .i64 nu, .int .i64 wa, .int .i64 pf, .int .u64 (pc : Int), .int .i64 pm, .slice ca cn cc, .slice aa an ac]] W fun e w' => e = .returned (.int .i64 r0) ∧ Below W.heap.size W w')
    (hAw : ∀ W, Below w.heap.size w W → Calls Tryd.prog 9 #[] W fun e w' => e = .returned (.bool true) ∧ Below W.heap.size W w')
    (hFi : ∀ W, Below w.heap.size w W → Calls Tryd.prog 10 #[.int .i64 k] W fun e w' => e = .returned (.int .i64 x) ∧ w' = W)
    (hQ : r0 = 0 → ∀ z : Int, 1 ≤ z → z ≤ 5 → ∀ W, Below w.heap.size w W → Calls Tryd.prog 7 #[.agg #[.int .i64 k, .string f, .string q, .string m, .int .i64 vk, .int .i64 vx, .int .u64 vb, .string vs, .slice la ll lc, .int .i64 z, .int .i64 nu, .int .i64 wa, .int .i64 pf, .int .u64 (pc : Int), .int .i64 pm, .slice ca cn cc, .slice aa an ac]] W fun e w' => e = .returned (.int .i64 (if h4 then 0 else 1)) ∧ Below W.heap.size W w')
    (hD : r0 = 0 → ∀ W, Below w.heap.size w W → Calls Tryd.prog 7 #[.agg #[.int .i64 k, .string f2, .string q, .string m, .int .i64 vk, .int .i64 vx, .int .u64 vb, .string vs, .slice la ll lc, .int .i64 ru, .int .i64 nu, .int .i64 wa, .int .i64 pf, .int .u64 (pc : Int), .int .i64 pm, .slice ca cn cc, .slice aa an ac]] W fun e w' => e = .returned (.int .i64 1) ∧ Below W.heap.size W w') :
    Calls Tryd.prog 5 #[.agg #[.int .i64 k, .string f, .string q, .string m, .int .i64 vk, .int .i64 vx, .int .u64 vb, .string vs, .slice la ll lc, .int .i64 ru, .int .i64 nu, .int .i64 wa, .int .i64 pf, .int .u64 (pc : Int), .int .i64 pm, .slice ca cn cc, .slice aa an ac], .int .i64 run] w fun e w' => e = .returned (.bool true) ∧ Below w.heap.size w w' := by
  have HFew : Hid _ := hFew
  have H7 : Hid _ := h7
  have HAw : Hid _ := hAw
  have HFi : Hid _ := hFi
  have HQ : Hid _ := hQ
  have HD : Hid _ := hD
  have HFS : Hid (r0 = 0 → f.size ≤ 24) := hfs
  clear hFew h7 hAw hFi hQ hD hfs
  have HB : Hid (Below w.heap.size w (w.alloc (.cells #[.int .i64 k, .string f, .string q, .string m, .int .i64 vk, .int .i64 vx, .int .u64 vb, .string vs, .slice la ll lc, .int .i64 ru, .int .i64 nu, .int .i64 wa, .int .i64 pf, .int .u64 (pc : Int), .int .i64 pm, .slice ca cn cc, .slice aa an ac] 31))) := bel1 _ _
  have HX : Hid (AtR (w.alloc (.cells #[.int .i64 k, .string f, .string q, .string m, .int .i64 vk, .int .i64 vx, .int .u64 vb, .string vs, .slice la ll lc, .int .i64 ru, .int .i64 nu, .int .i64 wa, .int .i64 pf, .int .u64 (pc : Int), .int .i64 pm, .slice ca cn cc, .slice aa an ac] 31)) w.heap.size k f q m vk vx vb vs la ll lc ru nu wa pf pc pm ca cn cc aa an ac) := AtR.box w k f q m vk vx vb vs la ll lc ru nu wa pf pc pm ca cn cc aa an ac
  have HS : Hid (w.heap.size < (w.alloc (.cells #[.int .i64 k, .string f, .string q, .string m, .int .i64 vk, .int .i64 vx, .int .u64 vb, .string vs, .slice la ll lc, .int .i64 ru, .int .i64 nu, .int .i64 wa, .int .i64 pf, .int .u64 (pc : Int), .int .i64 pm, .slice ca cn cc, .slice aa an ac] 31)).heap.size) := by rw [Hid]; simp
  generalize hW0 : w.alloc (.cells #[.int .i64 k, .string f, .string q, .string m, .int .i64 vk, .int .i64 vx, .int .u64 vb, .string vs, .slice la ll lc, .int .i64 ru, .int .i64 nu, .int .i64 wa, .int .i64 pf, .int .u64 (pc : Int), .int .i64 pm, .slice ca cn cc, .slice aa an ac] 31) = W1 at HB HX HS
  have H0 : Hid (w.alloc (.cells #[.int .i64 k, .string f, .string q, .string m, .int .i64 vk, .int .i64 vx, .int .u64 vb, .string vs, .slice la ll lc, .int .i64 ru, .int .i64 nu, .int .i64 wa, .int .i64 pf, .int .u64 (pc : Int), .int .i64 pm, .slice ca cn cc, .slice aa an ac] 31) = W1) := hW0
  clear hW0
  go_enter Tryd.func5, Tryd.ntmps5
  go_upto_region 1 with fail
  rw [H0.out]
  clear H0
  go_wp2_with (first | (refine wpList_load_mid (by rfl) 31 _ rfl w.heap.size 0 rfl [.int .i64 k, .string f, .string q, .string m, .int .i64 vk, .int .i64 vx, .int .u64 vb, .string vs, .slice la ll lc, .int .i64 ru, .int .i64 nu, .int .i64 wa, .int .i64 pf, .int .u64 (pc : Int), .int .i64 pm, .slice ca cn cc, .slice aa an ac] _ HX.out.range Tryd.underlying31 rfl rq31 ?_))
  refine Calls.mono (HFew.out _) ?_
  rintro e w1 ⟨rfl, hb⟩
  replace HX : Hid (AtR w1 w.heap.size k f q m vk vx vb vs la ll lc ru nu wa pf pc pm ca cn cc aa an ac) := HX.out.below hb
  replace HB : Hid (Below w.heap.size w w1) := bel2 HB.out hb
  replace HS : Hid (w.heap.size < w1.heap.size) := Nat.lt_of_lt_of_le HS.out hb.size
  clear hb
  cases bF
  · go_wp2_with fail
    refine Calls.mono (HAw.out _ HB.out) ?_
    rintro e w2 ⟨rfl, hb⟩
    replace HB : Hid (Below w.heap.size w w2) := bel2 HB.out hb
    clear hb
    go_wp2_with fail
    go_ret
    exact ⟨rfl, HB.out⟩
  go_wp2_with (first | (refine wpList_load_mid (by rfl) 31 _ rfl w.heap.size 0 rfl [.int .i64 k, .string f, .string q, .string m, .int .i64 vk, .int .i64 vx, .int .u64 vb, .string vs, .slice la ll lc, .int .i64 ru, .int .i64 nu, .int .i64 wa, .int .i64 pf, .int .u64 (pc : Int), .int .i64 pm, .slice ca cn cc, .slice aa an ac] _ HX.out.range Tryd.underlying31 rfl rq31 ?_))
  refine Calls.mono (H7.out _ HB.out) ?_
  rintro e w2 ⟨rfl, hb⟩
  replace HX : Hid (AtR w2 w.heap.size k f q m vk vx vb vs la ll lc ru nu wa pf pc pm ca cn cc aa an ac) := HX.out.below hb
  replace HB : Hid (Below w.heap.size w w2) := bel2 HB.out hb
  replace HS : Hid (w.heap.size < w2.heap.size) := Nat.lt_of_lt_of_le HS.out hb.size
  clear hb
  by_cases hr0 : r0 = 0
  rotate_left
  · have e0 : (r0 != 0) = true := by simpa using hr0
    go_wp2_with fail
    refine Calls.mono (HAw.out _ HB.out) ?_
    rintro e w3 ⟨rfl, hb⟩
    replace HB : Hid (Below w.heap.size w w3) := bel2 HB.out hb
    clear hb
    go_wp2_with fail
    go_ret
    exact ⟨rfl, HB.out⟩
  subst hr0
  go_upto_region 3 with fail
  go_upto_region 4 with (first | (refine wpList_load_mid (by rfl) 31 _ rfl w.heap.size 0 rfl [.int .i64 k, .string f, .string q, .string m, .int .i64 vk, .int .i64 vx, .int .u64 vb, .string vs, .slice la ll lc, .int .i64 ru, .int .i64 nu, .int .i64 wa, .int .i64 pf, .int .u64 (pc : Int), .int .i64 pm, .slice ca cn cc, .slice aa an ac] _ HX.out.range Tryd.underlying31 rfl rq31 ?_))
  have HQX : Hid (AtR (w2.alloc (.cells #[.int .i64 k, .string f, .string q, .string m, .int .i64 vk, .int .i64 vx, .int .u64 vb, .string vs, .slice la ll lc, .int .i64 ru, .int .i64 nu, .int .i64 wa, .int .i64 pf, .int .u64 (pc : Int), .int .i64 pm, .slice ca cn cc, .slice aa an ac] 31)) w2.heap.size k f q m vk vx vb vs la ll lc ru nu wa pf pc pm ca cn cc aa an ac) := AtR.box w2 k f q m vk vx vb vs la ll lc ru nu wa pf pc pm ca cn cc aa an ac
  have HTh : Hid (Thaw (w2.alloc (.cells #[.int .i64 k, .string f, .string q, .string m, .int .i64 vk, .int .i64 vx, .int .u64 vb, .string vs, .slice la ll lc, .int .i64 ru, .int .i64 nu, .int .i64 wa, .int .i64 pf, .int .u64 (pc : Int), .int .i64 pm, .slice ca cn cc, .slice aa an ac] 31)) w2.heap.size) := Thaw.new w2 _ 31
  replace HX : Hid (AtR (w2.alloc (.cells #[.int .i64 k, .string f, .string q, .string m, .int .i64 vk, .int .i64 vx, .int .u64 vb, .string vs, .slice la ll lc, .int .i64 ru, .int .i64 nu, .int .i64 wa, .int .i64 pf, .int .u64 (pc : Int), .int .i64 pm, .slice ca cn cc, .slice aa an ac] 31)) w.heap.size k f q m vk vx vb vs la ll lc ru nu wa pf pc pm ca cn cc aa an ac) := HX.out.below (bel1 _ _)
  replace HB : Hid (Below w.heap.size w (w2.alloc (.cells #[.int .i64 k, .string f, .string q, .string m, .int .i64 vk, .int .i64 vx, .int .u64 vb, .string vs, .slice la ll lc, .int .i64 ru, .int .i64 nu, .int .i64 wa, .int .i64 pf, .int .u64 (pc : Int), .int .i64 pm, .slice ca cn cc, .slice aa an ac] 31))) := belA HB.out _
  generalize w2.alloc (.cells #[.int .i64 k, .string f, .string q, .string m, .int .i64 vk, .int .i64 vx, .int .u64 vb, .string vs, .slice la ll lc, .int .i64 ru, .int .i64 nu, .int .i64 wa, .int .i64 pf, .int .u64 (pc : Int), .int .i64 pm, .slice ca cn cc, .slice aa an ac] 31) = w3 at HQX HTh HX HB ⊢
  generalize w2.heap.size = g at HQX HTh HS ⊢
  obtain ⟨x0, x1, x2, x3, x4, x5, x6, x7, x8, x9, x10, x11, x12, x13, x14, x15, x16⟩ := HQX.out
  have z9 := HTh.out.2 9
  clear x0 x1 x2 x3 x4 x5 x6 x7 x8 x10 x11 x12 x13 x14 x15 x16
  go_upto_region 5 with fail
  clear x9 z9
  have HZ : Hid (1 ≤ wrap64 (1 + wrap64 ((IntKind.u64.wrap run).tmod 5)) ∧ wrap64 (1 + wrap64 ((IntKind.u64.wrap run).tmod 5)) ≤ 5) := run_in run
  generalize wrap64 (1 + wrap64 ((IntKind.u64.wrap run).tmod 5)) = z at HZ ⊢
  replace HQX : Hid (AtR (w3.setCell ⟨g, 9, none⟩ (.int .i64 z)) g k f q m vk vx vb vs la ll lc z nu wa pf pc pm ca cn cc aa an ac) := HQX.out.set9 z
  replace HTh : Hid (Thaw (w3.setCell ⟨g, 9, none⟩ (.int .i64 z)) g) := HTh.out.set _ _
  replace HX : Hid (AtR (w3.setCell ⟨g, 9, none⟩ (.int .i64 z)) w.heap.size k f q m vk vx vb vs la ll lc ru nu wa pf pc pm ca cn cc aa an ac) := HX.out.far _ _ (by have := HS.out; show g ≠ _; omega)
  replace HB : Hid (Below w.heap.size w (w3.setCell ⟨g, 9, none⟩ (.int .i64 z))) := HB.out.setCell (by have := HS.out; show _ ≤ g; omega) _
  generalize w3.setCell ⟨g, 9, none⟩ (.int .i64 z) = w4 at HQX HTh HX HB ⊢
  have HC : Hid (((if h4 then (0 : Int) else 1) == 0) = h4) := by rw [Hid]; cases h4 <;> rfl
  have HQ1 : Hid (∀ W, Below w.heap.size w W → Calls Tryd.prog 7 #[.agg #[.int .i64 k, .string f, .string q, .string m, .int .i64 vk, .int .i64 vx, .int .u64 vb, .string vs, .slice la ll lc, .int .i64 z, .int .i64 nu, .int .i64 wa, .int .i64 pf, .int .u64 (pc : Int), .int .i64 pm, .slice ca cn cc, .slice aa an ac]] W fun e w' => e = .returned (.int .i64 (if h4 then 0 else 1)) ∧ Below W.heap.size W w')   := HQ.out (by trivial) z HZ.out.1 HZ.out.2
  generalize hcz : (if h4 then (0 : Int) else 1) = cz at HQ1 HC
  have hc4 : (cz == 0) = h4 := HC.out
  clear hcz HC
  refine wp_region_held_drew (S := (fun w' => w'.rangeAt g 0 [.int .i64 k, .string f, .string q, .string m, .int .i64 vk, .int .i64 vx, .int .u64 vb, .string vs, .slice la ll lc, .int .i64 z, .int .i64 nu, .int .i64 wa, .int .i64 pf, .int .u64 (pc : Int), .int .i64 pm, .slice ca cn cc, .slice aa an ac] ∧ w'.cell? ⟨w.heap.size, 0, none⟩ = some (.int .i64 k))) (by kernel_rfl) ⟨HQX.out.range, HX.out.1⟩ (fun hHeld => ?_)
  change wpAnyH _ _ _ _ _ _ _ _ (World.drew _)
  refine wpAnyH_take (i := 0) (oi := { dst := some 22, op := Go.Op.load 31 (Go.Operand.tmp 5), type := 31, pos := "law.go:58", after := #[], guard := none }) (v := _) rfl (by kernel_rfl) (by kernel_rfl) (by kernel_rfl) (fun _ _ _ h => h) (yieldsIf_load_mid rfl 31 _ rfl g 0 rfl [.int .i64 k, .string f, .string q, .string m, .int .i64 vk, .int .i64 vx, .int .u64 vb, .string vs, .slice la ll lc, .int .i64 z, .int .i64 nu, .int .i64 wa, .int .i64 pf, .int .u64 (pc : Int), .int .i64 pm, .slice ca cn cc, .slice aa an ac] _ (fun w h => h.1) Tryd.underlying31 rfl rq31) hHeld ?_
  simp only [Act.put, List.setIfInBounds_toArray, List.set_cons_zero, List.set_cons_succ]
  refine wpAnyH_take (i := 3) (oi := { dst := some 25, op := Go.Op.fieldAddr 31 (Go.Operand.tmp 2) 0, type := 0, pos := "law.go:58", after := #[], guard := none }) (v := ?_) rfl (by kernel_rfl) (by kernel_rfl) (by kernel_rfl) (fun _ _ _ h => h) (Or.inl ⟨by rfl, ?_⟩) hHeld ?_
  rotate_left 1
  · (intro w hSw; (try dsimp only at hSw); go_simp <;> with_reducible rfl)
  simp only [Act.put, List.setIfInBounds_toArray, List.set_cons_zero, List.set_cons_succ]
  refine wpAnyH_take (i := 4) (oi := { dst := some 26, op := Go.Op.load 3 (Go.Operand.tmp 25), type := 3, pos := "law.go:58", after := #[{ on := 3, ground := Go.Ground.data }], guard := none }) (v := ?_) rfl (by kernel_rfl) (by kernel_rfl) (by kernel_rfl) (fun _ _ _ h => h) (Or.inl ⟨by rfl, ?_⟩) hHeld ?_
  rotate_left 1
  · (intro w hSw; (try dsimp only at hSw); go_simp <;> with_reducible rfl)
  simp only [Act.put, List.setIfInBounds_toArray, List.set_cons_zero, List.set_cons_succ]
  refine wpAnyH_ready (rs := [1]) (by kernel_rfl) (by simp) ?_
  refine AllReadyH.cons (o := { dst := some 23, op := Go.Op.call { callee := Go.Callee.value (Go.Operand.func 7), args := #[Go.Operand.tmp 22], argTypes := #[31] }, type := 33, pos := "law.go:58", after := #[{ on := 0, ground := Go.Ground.data }], guard := none }) rfl (fun K hK => ?_) AllReadyH.nil
  go_simp
  refine Calls.mono (HQ1.out _ HB.out.drew) ?_
  rintro e w5 ⟨rfl, hb⟩
  replace hb := bel2 (Below.refl _ w4).drew hb
  replace HQX : Hid (AtR w5 g k f q m vk vx vb vs la ll lc z nu wa pf pc pm ca cn cc aa an ac) := HQX.out.below hb
  replace HTh : Hid (Thaw w5 g) := HTh.out.below hb
  replace HX : Hid (AtR w5 w.heap.size k f q m vk vx vb vs la ll lc ru nu wa pf pc pm ca cn cc aa an ac) := HX.out.below hb
  replace HB : Hid (Below w.heap.size w w5) := bel2 HB.out hb
  clear hb
  refine hK.out _ _ ⟨HQX.out.range, HX.out.1⟩ (fun hHeld => ?_)
  clear hK K
  refine wpAnyH_take (i := 2) (oi := { dst := some 24, op := Go.Op.binOp Go.BinOp.eql 33 (Go.Operand.tmp 23) (Go.Operand.const (Go.Value.int Go.IntKind.i64 0)) 33, type := 4, pos := "law.go:58", after := #[{ on := 1, ground := Go.Ground.data }], guard := none }) (v := ?_) rfl (by kernel_rfl) (by kernel_rfl) (by kernel_rfl) (fun _ _ _ h => h) (Or.inl ⟨by rfl, ?_⟩) hHeld ?_
  rotate_left 1
  · (intro w hSw; (try dsimp only at hSw); go_simp <;> with_reducible rfl)
  simp only [Act.put, List.setIfInBounds_toArray, List.set_cons_zero, List.set_cons_succ]
  refine wpAnyH_ready (rs := [5]) (by kernel_rfl) (by simp) ?_
  refine AllReadyH.cons (o := { dst := some 27, op := Go.Op.call { callee := Go.Callee.value (Go.Operand.func 10), args := #[Go.Operand.tmp 26], argTypes := #[3] }, type := 3, pos := "law.go:58", after := #[{ on := 4, ground := Go.Ground.data }, { on := 1, ground := Go.Ground.chain }], guard := none }) rfl (fun K hK => ?_) AllReadyH.nil
  go_simp
  refine Calls.mono (HFi.out _ HB.out) ?_
  rintro e w6 ⟨rfl, e1⟩
  have e2 := e1.symm
  subst e2
  clear e1
  refine hK.out _ _ hHeld (fun hHeld => ?_)
  clear hK K
  refine wpAnyH_take (i := 6) (oi := { dst := some 28, op := Go.Op.binOp Go.BinOp.quo 3 (Go.Operand.tmp 27) (Go.Operand.const (Go.Value.int Go.IntKind.i64 16)) 3, type := 3, pos := "law.go:58", after := #[{ on := 5, ground := Go.Ground.data }], guard := none }) (v := ?_) rfl (by kernel_rfl) (by kernel_rfl) (by kernel_rfl) (fun _ _ _ h => h) (Or.inl ⟨by rfl, ?_⟩) hHeld ?_
  rotate_left 1
  · (intro w hSw; (try dsimp only at hSw); go_simp <;> with_reducible rfl)
  simp only [Act.put, List.setIfInBounds_toArray, List.set_cons_zero, List.set_cons_succ]
  refine wpAnyH_take (i := 7) (oi := { dst := some 29, op := Go.Op.binOp Go.BinOp.rem 3 (Go.Operand.tmp 28) (Go.Operand.const (Go.Value.int Go.IntKind.i64 2)) 3, type := 3, pos := "law.go:58", after := #[{ on := 6, ground := Go.Ground.data }], guard := none }) (v := ?_) rfl (by kernel_rfl) (by kernel_rfl) (by kernel_rfl) (fun _ _ _ h => h) (Or.inl ⟨by rfl, ?_⟩) hHeld ?_
  rotate_left 1
  · (intro w hSw; (try dsimp only at hSw); go_simp <;> with_reducible rfl)
  simp only [Act.put, List.setIfInBounds_toArray, List.set_cons_zero, List.set_cons_succ]
  refine wpAnyH_take (i := 8) (oi := { dst := some 30, op := Go.Op.binOp Go.BinOp.eql 3 (Go.Operand.tmp 29) (Go.Operand.const (Go.Value.int Go.IntKind.i64 1)) 3, type := 4, pos := "law.go:58", after := #[{ on := 7, ground := Go.Ground.data }], guard := none }) (v := ?_) rfl (by kernel_rfl) (by kernel_rfl) (by kernel_rfl) (fun _ _ _ h => h) (Or.inl ⟨by rfl, ?_⟩) hHeld ?_
  rotate_left 1
  · (intro w hSw; (try dsimp only at hSw); go_simp <;> with_reducible rfl)
  simp only [Act.put, List.setIfInBounds_toArray, List.set_cons_zero, List.set_cons_succ]
  refine wpAnyH_take (i := 9) (oi := { dst := some 31, op := Go.Op.binOp Go.BinOp.neq 4 (Go.Operand.tmp 24) (Go.Operand.tmp 30) 4, type := 4, pos := "law.go:58", after := #[{ on := 2, ground := Go.Ground.data }, { on := 8, ground := Go.Ground.data }], guard := none }) (v := ?_) rfl (by kernel_rfl) (by kernel_rfl) (by kernel_rfl) (fun _ _ _ h => h) (Or.inl ⟨by rfl, ?_⟩) hHeld ?_
  rotate_left 1
  · (intro w hSw; (try dsimp only at hSw); go_simp <;> with_reducible rfl)
  simp only [Act.put, List.setIfInBounds_toArray, List.set_cons_zero, List.set_cons_succ]
  refine wpAnyH_done (by kernel_rfl) ?_ _
  go_upto_region 7 with fail
  have L17 : Hid (w5.there g 0 17) := HQX.out.there HTh.out
  go_upto_region 8 with (first
    | (refine wpList_load_mid (by rfl) 31 _ rfl w.heap.size 0 rfl [.int .i64 k, .string f, .string q, .string m, .int .i64 vk, .int .i64 vx, .int .u64 vb, .string vs, .slice la ll lc, .int .i64 ru, .int .i64 nu, .int .i64 wa, .int .i64 pf, .int .u64 (pc : Int), .int .i64 pm, .slice ca cn cc, .slice aa an ac] _ HX.out.range Tryd.underlying31 rfl rq31 ?_)
    | (refine wpList_store_mid (by rfl) 31 _ _ rfl g 0 #[.int .i64 k, .string f, .string q, .string m, .int .i64 vk, .int .i64 vx, .int .u64 vb, .string vs, .slice la ll lc, .int .i64 ru, .int .i64 nu, .int .i64 wa, .int .i64 pf, .int .u64 (pc : Int), .int .i64 pm, .slice ca cn cc, .slice aa an ac] rfl rfl L17.out rq31 (ones17 k f q m vk vx vb vs la ll lc ru nu wa pf pc pm ca cn cc aa an ac) ?_))
  have hgn : g ≠ w.heap.size := by have := HS.out; omega
  have hgl : w.heap.size ≤ g := by have := HS.out; omega
  replace HQX : Hid (AtR (w5.setCells g 0 [.int .i64 k, .string f, .string q, .string m, .int .i64 vk, .int .i64 vx, .int .u64 vb, .string vs, .slice la ll lc, .int .i64 ru, .int .i64 nu, .int .i64 wa, .int .i64 pf, .int .u64 (pc : Int), .int .i64 pm, .slice ca cn cc, .slice aa an ac]) g k f q m vk vx vb vs la ll lc ru nu wa pf pc pm ca cn cc aa an ac) := AtR.of_range (World.rangeAt_setCells_same _ _ _ _ L17.out)
  replace HTh : Hid (Thaw (w5.setCells g 0 [.int .i64 k, .string f, .string q, .string m, .int .i64 vk, .int .i64 vx, .int .u64 vb, .string vs, .slice la ll lc, .int .i64 ru, .int .i64 nu, .int .i64 wa, .int .i64 pf, .int .u64 (pc : Int), .int .i64 pm, .slice ca cn cc, .slice aa an ac]) g) := Thaw.sets _ _ _ HTh.out
  replace HX : Hid (AtR (w5.setCells g 0 [.int .i64 k, .string f, .string q, .string m, .int .i64 vk, .int .i64 vx, .int .u64 vb, .string vs, .slice la ll lc, .int .i64 ru, .int .i64 nu, .int .i64 wa, .int .i64 pf, .int .u64 (pc : Int), .int .i64 pm, .slice ca cn cc, .slice aa an ac]) w.heap.size k f q m vk vx vb vs la ll lc ru nu wa pf pc pm ca cn cc aa an ac) := AtR.of_range (World.rangeAt_setCells_apart HX.out.range g 0 _ (Or.inl (Ne.symm hgn)))
  replace HB : Hid (Below w.heap.size w (w5.setCells g 0 [.int .i64 k, .string f, .string q, .string m, .int .i64 vk, .int .i64 vx, .int .u64 vb, .string vs, .slice la ll lc, .int .i64 ru, .int .i64 nu, .int .i64 wa, .int .i64 pf, .int .u64 (pc : Int), .int .i64 pm, .slice ca cn cc, .slice aa an ac])) := below_setCells hgl _ _ _ _ HB.out
  clear L17
  generalize w5.setCells g 0 [.int .i64 k, .string f, .string q, .string m, .int .i64 vk, .int .i64 vx, .int .u64 vb, .string vs, .slice la ll lc, .int .i64 ru, .int .i64 nu, .int .i64 wa, .int .i64 pf, .int .u64 (pc : Int), .int .i64 pm, .slice ca cn cc, .slice aa an ac] = w6 at HQX HTh HX HB ⊢
  have x1 := HX.out.2.1
  have y1 := HQX.out.2.1
  have z1 := HTh.out.2 1
  have hs8 : f.size ≤ 140737488351232 := Nat.le_trans (HFS.out (by trivial)) (by decide)
  go_upto_region 9 with fail
  clear x1 y1 z1 hs8
  replace HQX : Hid (AtR (w6.setCell ⟨g, 1, none⟩ (.string f2)) g k f2 q m vk vx vb vs la ll lc ru nu wa pf pc pm ca cn cc aa an ac) := HQX.out.set1 f2
  replace HB : Hid (Below w.heap.size w (w6.setCell ⟨g, 1, none⟩ (.string f2))) := HB.out.setCell hgl _
  clear HX HTh
  generalize w6.setCell ⟨g, 1, none⟩ (.string f2) = w7 at HQX HB ⊢
  go_wp2_with (first | (refine wpList_load_mid (by rfl) 31 _ rfl g 0 rfl [.int .i64 k, .string f2, .string q, .string m, .int .i64 vk, .int .i64 vx, .int .u64 vb, .string vs, .slice la ll lc, .int .i64 ru, .int .i64 nu, .int .i64 wa, .int .i64 pf, .int .u64 (pc : Int), .int .i64 pm, .slice ca cn cc, .slice aa an ac] _ HQX.out.range Tryd.underlying31 rfl rq31 ?_))
  refine Calls.mono (HD.out (by trivial) _ HB.out) ?_
  rintro e w8 ⟨rfl, hb⟩
  replace HB : Hid (Below w.heap.size w w8) := bel2 HB.out hb
  clear hb HQX
  go_wp2_with fail
  refine Calls.mono (HAw.out _ HB.out) ?_
  rintro e w9 ⟨rfl, hb⟩
  replace HB : Hid (Below w.heap.size w w9) := bel2 HB.out hb
  clear hb
  go_wp2_with fail
  go_ret
  exact ⟨rfl, HB.out⟩
theorem nm_dot (f : ByteArray) : nmB ((⟨#[46]⟩ : ByteArray) ++ f) = false := by
  have hs : ((⟨#[46]⟩ : ByteArray) ++ f).size = f.size + 1 := by
    rw [ByteArray.size_append]
    show 1 + f.size = f.size + 1
    omega
  by_cases h2 : 24 < ((⟨#[46]⟩ : ByteArray) ++ f).size
  · exact nm_big _ h2
  · rw [nm_in _ (by omega) (by omega)]
    refine allG_false _ (fun h => ?_)
    have h0 := h 0 (by omega)
    have e : ((⟨#[46]⟩ : ByteArray) ++ f)[0].toNat = 46 := by
      have : ((⟨#[46]⟩ : ByteArray) ++ f)[0] = 46 := by
        rw [ByteArray.getElem_append_left (by decide)]
        rfl
      rw [this]
      rfl
    rw [gd_zero _ (.inl e)] at h0
    cases h0
theorem ok_run {n : Nat} {tv : Tv} {k : Int} {f q m : ByteArray} {vk ru nu wa pf : Int} {pc : Nat} {pm : Int} {cn an : Nat} (z : Int) (h1 : 1 ≤ z) (h5 : z ≤ 5) (h : Ok1 n tv k f q m vk ru nu wa pf pc pm cn an) : Ok1 n tv k f q m vk z nu wa pf pc pm cn an ↔ hs k 4 = true := by
  obtain ⟨hk, hf, ht, hn, hm, hp⟩ := h
  constructor
  · intro g
    exact g.2.1 3 (by decide) (by simp [fbs]; omega)
  · intro g
    refine ⟨hk, fun j hj hb => ?_, ht, ?_, hm, hp⟩
    · have : j = 0 ∨ j = 1 ∨ j = 2 ∨ j = 3 ∨ j = 4 ∨ j = 5 ∨ j = 6 ∨ j = 7 := by omega
      rcases this with rfl | rfl | rfl | rfl | rfl | rfl | rfl | rfl
      · exact hf 0 hj hb
      · exact hf 1 hj hb
      · exact hf 2 hj hb
      · exact g
      · exact hf 4 hj hb
      · exact hf 5 hj hb
      · exact hf 6 hj hb
      · exact hf 7 hj hb
    · simp only [nbf, Bool.and_eq_true] at hn ⊢
      exact ⟨⟨hn.1.1, by simp [wi]; omega⟩, hn.2⟩
theorem quo16 (k : Int) : ((IntKind.i64.wrap ((fld k).tdiv 16)).tmod 2 == 1) = hs k 4 := by
  unfold hs
  rcases fld_set k with h | h | h | h | h | h | h | h | h | h | h | h <;> rw [h] <;> decide +kernel
theorem lk_code {P1 P2 P3 : Prop} {F : Nat} {args : Array Value} {Q : World → Prop} (h : ∀ W, Q W → Calls Tryd.prog F args W (LkP P1 P2 P3 W)) : ∃ r : Int, (r = 0 → P1 ∧ P2 ∧ P3) ∧ ∀ W, Q W → Calls Tryd.prog F args W fun e w' => e = .returned (.int .i64 r) ∧ Below W.heap.size W w' := by
  by_cases p1 : P1
  · by_cases p2 : P2
    · by_cases p3 : P3
      · exact ⟨0, fun _ => ⟨p1, p2, p3⟩, fun W hW => (h W hW).mono fun e w' ⟨r, he, _, _, h3, _, hb⟩ => ⟨by rw [he, h3 p1 p2 p3], hb⟩⟩
      · exact ⟨1, fun h => absurd h (by decide), fun W hW => (h W hW).mono fun e w' ⟨r, he, _, _, _, h4, hb⟩ => ⟨by rw [he, h4 p1 p2 p3], hb⟩⟩
    · exact ⟨5, fun h => absurd h (by decide), fun W hW => (h W hW).mono fun e w' ⟨r, he, _, h2, _, _, hb⟩ => ⟨by rw [he, h2 p1 p2], hb⟩⟩
  · exact ⟨1, fun h => absurd h (by decide), fun W hW => (h W hW).mono fun e w' ⟨r, he, h1, _, _, _, hb⟩ => ⟨by rw [he, h1 p1], hb⟩⟩
theorem apart_walk (k : Int) (f q m : ByteArray) (vk vx vb : Int) (vs : ByteArray) (la : Option Addr) (ll lc : Nat) (ru nu wa pf : Int) (pc : Nat) (pm : Int) (ca : Option Addr) (cn cc : Nat) (aa : Option Addr) (an ac : Nat) (n : Nat) (tv : Tv) (l : List Cm) (al : List An) (run : Int) (w : World) (hI : RqI w k f q m vk vx vb vs la ll lc ru nu wa pf pc pm ca cn cc aa an ac n tv l al) (hT : Tb w) : Calls Tryd.prog 5 #[.agg #[.int .i64 k, .string f, .string q, .string m, .int .i64 vk, .int .i64 vx, .int .u64 vb, .string vs, .slice la ll lc, .int .i64 ru, .int .i64 nu, .int .i64 wa, .int .i64 pf, .int .u64 (pc : Int), .int .i64 pm, .slice ca cn cc, .slice aa an ac], .int .i64 run] w fun e w' => e = .returned (.bool true) ∧ Below w.heap.size w w' := by
  have K : ∀ (ru : Int) (f : ByteArray) W, Below w.heap.size w W → Calls Tryd.prog 7 #[.agg #[.int .i64 k, .string f, .string q, .string m, .int .i64 vk, .int .i64 vx, .int .u64 vb, .string vs, .slice la ll lc, .int .i64 ru, .int .i64 nu, .int .i64 wa, .int .i64 pf, .int .u64 (pc : Int), .int .i64 pm, .slice ca cn cc, .slice aa an ac]] W (LkP (Ok1 n tv k f q m vk ru nu wa pf pc pm cn an) (cn ≤ 12 ∧ an ≤ 8) (Ok3 n l al nu cn) W) := fun ru f W hB => lcheck_calls n tv l al k f q m vk vx vb vs la ll lc ru nu wa pf pc pm ca cn cc aa an ac W hI.pc (hI.v.below hB) (hI.c.below hB) (hI.a.below hB) hI.cn hI.an (hT.below hB)
  obtain ⟨r0, hr0, H7⟩ := lk_code (K ru f)
  refine apart_gen (decide (cn + an ≤ 60)) r0 (hs k 4) (fld k) _ k f q m vk vx vb vs la ll lc ru nu wa pf pc pm ca cn cc aa an ac run w rfl (fun h0 => ?_) (quo16 k) (fun W => few_calls k f q m vk vx vb vs la ll lc ru nu wa pf pc pm ca cn cc aa an ac W) H7 (fun W hB => awake_calls W (hT.below hB)) (fun W hB => fields_calls k W (hT.below hB)) (fun h0 z h1 h5 W hB => ?_) (fun h0 W hB => ?_)
  · have := (hr0 h0).1.2.2.1
    by_cases h : 24 < f.size
    · rw [txt, nm_big f h] at this
      simp at this
    · omega
  · obtain ⟨o1, o2, o3⟩ := hr0 h0
    refine (K z f W hB).mono ?_
    rintro e w' ⟨r, rfl, g1, _, g3, _, hb⟩
    cases h4 : hs k 4
    · exact ⟨by rw [g1 (fun g => by rw [(ok_run z h1 h5 o1).1 g] at h4; cases h4)]; rfl, hb⟩
    · exact ⟨by rw [g3 ((ok_run z h1 h5 o1).2 h4) o2 o3]; rfl, hb⟩
  · refine (K ru _ W hB).mono ?_
    rintro e w' ⟨r, rfl, g1, _, _, _, hb⟩
    refine ⟨?_, hb⟩
    rw [g1]
    intro g
    have := g.2.2.1
    rw [txt, nm_dot] at this
    simp at this
end Go.Proofs.YtddigndamimmpaaDoor
