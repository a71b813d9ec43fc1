/- Request; the reader: numbers, texts, structs, lists. -/
import Derived.Test.YtjmonkhkcmcfiaaTA
import Derived.Defers
import Derived.Recover
import Derived.Test.YtjmonkhkcmcfiaaXF
import Derived.Deep.MidRow
import Derived.Deep.WholeRow
import Derived.Deep.RegionHeld3
import Derived.BigQuiet
namespace Go.Proofs.Ytjmonkhkcmcfiaa
open Go.ChangeShapes Go.WideShapes Go.ChangeAt Go.RowKit
theorem catch_idle (p : Addr) (w : World) :
    CallsD Try.prog 40 #[.pointer (some p)] .returning w fun e u' w' => e = .returned (.tuple #[]) ∧ u' = .returning ∧ w' = w := by
  refine callsD_of_wpS Try.func40 rfl fun c₀ cs hu => ?_
  apply wpS_seq
  apply wpS_region
  simp [wpOpsS, go_sem, recoverD, hu, Try.ntmps40, Exit.thenS]
  apply wpS_seq
  apply wpS_seq
  apply wpS_region
  simp [wpOpsS, go_sem, Exit.thenS]
  refine wpS_cond (t := true) (by simp [Act.eval, Array.replicate]) ?_
  simp only [if_true]
  refine wpS_of_wp (wp_ret ?_)
  cases c₀
  simp_all [Exit.thenS, bodyPostS, results, Try.results40]
theorem ta93 (v : Value) (w : World) : (Instr.typeAssert (.iface 93 v) 20 93 true).run Try.prog w = .ok (.tuple #[v, .bool true]) w := by
  unfold Instr.typeAssert
  simp [run_underlying Try.underlying93]
set_option maxHeartbeats 1000000 in
set_option maxRecDepth 100000 in
theorem catch_panicking (c : Int) (h : Nat) (older : List PanicEntry) (w : World) (y : Value) (hE : w.heap[h]? = some (Obj.cells #[y] 34 (0, 0))) :
    CallsD Try.prog 40 #[.pointer (some ⟨h, 0, none⟩)] (.panicking ({ v := .iface 93 (.agg #[.int .i64 c]), recovered := false } :: older)) w fun e u' w' =>
      e = .returned (.tuple #[]) ∧ u' = .panicking ({ v := .iface 93 (.agg #[.int .i64 c]), recovered := true } :: older) ∧ w'.heap[h]? = some (Obj.cells #[.int .i64 c] 34 (0, 0)) ∧ (∀ (B : Nat) (w0 : World), Below B w0 w → B ≤ h → B ≤ w.heap.size → Below B w0 w') := by
  refine callsD_of_wpS Try.func40 rfl fun c₀ cs hu => ?_
  apply wpS_seq
  apply wpS_region
  simp [wpOpsS, go_sem, recoverD, hu, Try.ntmps40, Exit.thenS]
  apply wpS_seq
  apply wpS_seq
  apply wpS_region
  simp [wpOpsS, go_sem, Exit.thenS]
  refine wpS_cond (t := false) (by simp [Act.eval, Array.replicate]) ?_
  simp only [Bool.false_eq_true, if_false]
  refine wpS_of_wp (wp_skip ?_)
  simp only [Exit.thenS]
  refine wpS_of_wp ?_
  have hh : h < w.heap.size := (Array.getElem?_eq_some_iff.1 hE).1
  generalize hQ : (fun e a' w' => bodyPostS Try.prog Try.f40 c₀ cs _ e a' _ w') = Q
  change Code.wp _ _ _ { tmps := #[.pointer (some ⟨h, 0, none⟩), .iface 93 (.agg #[.int .i64 c]), undef, undef, .iface 93 (.agg #[.int .i64 c]), .iface 93 (.agg #[.int .i64 c]), .bool false, undef, undef, undef, undef, undef, undef, undef, undef, undef, undef], defers := [] } w
  have ta := ta93
  obtain ⟨W1, hW1⟩ : ∃ W1, W1 = w.alloc (Obj.cells #[Value.int IntKind.i64 c] 93) := ⟨_, rfl⟩
  have E1 : W1.heap[h]? = some (Obj.cells #[y] 34 (0, 0)) := by rw [hW1, Below.heap_alloc _ _ _ hh]; exact hE
  have te : W1.cell? ⟨h, 0, none⟩ = some y := row_cell E1 rfl
  have ze : W1.frozen? ⟨h, 0, none⟩ = false := frozen_of_row _ _ 0 _ 34 E1
  have tk : W1.cell? ⟨w.heap.size, 0, none⟩ = some (.int .i64 c) := by rw [hW1]; exact row_cell (heap_alloc_new w _) rfl
  have E9 : (W1.setCell ⟨h, 0, none⟩ (.int .i64 c)).heap[h]? = some (Obj.cells #[.int .i64 c] 34 (0, 0)) := heap_setCell_same W1 h 0 _ 34 _ E1
  have B9 : ∀ (B : Nat) (w0 : World), Below B w0 w → B ≤ h → B ≤ w.heap.size → Below B w0 (W1.setCell ⟨h, 0, none⟩ (.int .i64 c)) := fun B w0 hb hh' hB => by rw [hW1]; exact (hb.alloc hB _).setCell (p := ⟨h, 0, none⟩) hh' _
  have HE9 : Hid _ := E9
  have HB9 : Hid _ := B9
  have HQ : Hid (_ = Q) := hQ
  have HU : Hid (c₀.mode = _) := hu
  clear hE hh hQ E1 E9 B9 hu
  rw [hW1] at te ze tk
  go_wp2_with fail
  rw [← hW1]
  rw [← HQ.out]
  have := HU.out
  simp only [bodyPostS, results, Try.results40]
  refine ⟨trivial, _, rfl, .tuple #[], by simp, rfl, rfl, HE9.out, HB9.out⟩
theorem setCell_self {w : World} {b o : Nat} {v : Value} {c : Array Value} {t : TypeId} {fz : Nat × Nat} (hb : w.heap[b]? = some (Obj.cells c t fz)) (h : c[o]? = some v) : w.setCell ⟨b, o, none⟩ v = w := by
  have key : (w.setCell ⟨b, o, none⟩ v).heap = w.heap := by
    unfold World.setCell
    apply Array.ext
    · simp
    · intro i h1 h2
      simp only [Array.getElem_modify]
      split
      · rename_i e
        subst e
        have hi : w.heap[b] = Obj.cells c t fz := (Array.getElem?_eq_some_iff.1 hb).2
        rw [hi]
        simp only [Option.isSome_none, Bool.false_eq_true, if_false]
        congr 1
        apply Array.ext
        · simp
        · intro j h3 h4
          rw [Array.getElem_setIfInBounds]
          split
          · rename_i e; subst e; exact ((Array.getElem?_eq_some_iff.1 h).2).symm
          · rfl
      · rfl
  cases w
  simp only [World.setCell] at key ⊢
  rw [key]
theorem own_lower {B B' : Nat} {w : World} {v : Value} {l : List UInt8} (h : Own B w v l) (hB : B' ≤ B) : Own B' w v l := by
  obtain ⟨h1, h2⟩ := h
  refine ⟨h1, ?_⟩
  rcases h2 with h2 | ⟨g, cap, cur, h3, h4, r⟩
  · exact .inl h2
  · exact .inr ⟨g, cap, cur, h3, Nat.le_trans hB h4, r⟩
/-- What caught leaves: the bytes, or why there are none. -/
def CxP (w : World) (r : Except Int (List UInt8)) (e : Ending) (w' : World) : Prop :=
  Below w.heap.size w w' ∧
  match r with
  | .ok m => ∃ v, e = .returned (.tuple #[v, .int .i64 0]) ∧ Own w.heap.size w' v m
  | .error c => e = .returned (.tuple #[.slice none 0 0, .int .i64 c])
theorem ret15 (tmps : Array Value) {w : World} {h : Nat} {x y : Value} (hp : tmps.getD 2 undef = x) (hq : tmps.getD 3 undef = .pointer (some ⟨h, 0, none⟩)) (hE : w.heap[h]? = some (Obj.cells #[y] 34 (0, 0))) :
    (results Try.f15 tmps).run Try.prog w = .ok (.tuple #[x, y]) w := by
  have hp' : tmps[2]?.getD undef = x := by simpa using hp
  have hq' : tmps[3]?.getD undef = .pointer (some ⟨h, 0, none⟩) := by simpa using hq
  have hc : w.cell? ⟨h, 0, none⟩ = some y := row_cell hE rfl
  have hv2 : (loadVar 34 ⟨h, 0, none⟩).run Try.prog w = .ok y w := by
    have hagg2 : (isAgg 34).run Try.prog w = .ok false w := by
      unfold isAgg
      rw [Sem.run_bind, run_underlying Try.underlying34 w]
      rfl
    simp [loadVar, Sem.run_bind, hagg2, go_sem, hc]
  simp [results, Try.results15, hp', hq', asAddr, hv2]
set_option maxHeartbeats 1000000 in
set_option maxRecDepth 100000 in
theorem caught_calls (h0 : Nat) (r : Except Int (List UInt8)) (w : World) (hC : ∀ W g, Below w.heap.size w W → w.heap.size ≤ g → Wb W g [] → Calls Try.prog 16 #[.pointer (some ⟨g, 0, none⟩), .pointer (some ⟨h0, 0, none⟩)] W (W6 W g r)) :
    Calls Try.prog 15 #[.func (.func 16) #[] #[.pointer (some ⟨h0, 0, none⟩)]] w (CxP w r) := by
  have hmf : ∀ (fn : Fn) (first cap : Array Value) (w : World), (Instr.makeFunc fn first cap).run Try.prog w = .ok (.func fn first cap) w := fun _ _ _ _ => rfl
  obtain ⟨W2, hW2⟩ : ∃ W2, W2 = (w.alloc (Obj.cells #[Value.int IntKind.i64 0] 34)).alloc (Obj.cells #[Value.slice none 0 0] 60) := ⟨_, rfl⟩
  have B2 : Below w.heap.size w W2 := by rw [hW2]; exact bel2 (bel1 _ _) (bel1 _ _)
  have hs1 : (w.alloc (Obj.cells #[Value.int IntKind.i64 0] 34)).heap.size = w.heap.size + 1 := by simp
  have E2 : W2.heap[w.heap.size]? = some (Obj.cells #[.int .i64 0] 34 (0, 0)) := by rw [hW2, Below.heap_alloc _ _ _ (by omega)]; exact heap_alloc_new w _
  have S2 : Wb W2 (w.heap.size + 1) [] := ⟨.slice none 0 0, by rw [hW2, ← hs1]; exact heap_alloc_new _ _, World.ownsRow_nil _ _ _ _⟩
  have RC : Hid (Calls Try.prog 16 #[.pointer (some ⟨w.heap.size + 1, 0, none⟩), .pointer (some ⟨h0, 0, none⟩)] W2 (W6 W2 (w.heap.size + 1) r)) := hC W2 (w.heap.size + 1) B2 (by omega) S2
  have HB2 : Hid (Below w.heap.size w W2) := B2
  have HE2 : Hid (W2.heap[w.heap.size]? = _) := E2
  have HW2 : Hid (W2 = _) := hW2
  clear hC B2 E2 S2 hW2 hs1
  go_enter_defers Try.func15, Try.ntmps15
  go_wp2_with fail
  rw [← HW2.out]
  refine Calls.mono RC.out ?_
  intro e w3 h3
  obtain ⟨f3, h3⟩ := h3
  have F3 : Hid (Fr (w.heap.size + 1) W2 w3) := f3
  have E3 : w3.heap[w.heap.size]? = some (Obj.cells #[.int .i64 0] 34 (0, 0)) := by rw [f3.bel.block _ (by omega)]; exact HE2.out
  have B3 : Hid (Below w.heap.size w w3) := HB2.out.trans (f3.bel.mono (by omega))
  cases r with
  | error c =>
    have h3' : e = thrown c := h3
    subst h3'
    refine leaves_cons (f := 40) (args := #[.pointer (some ⟨w.heap.size, 0, none⟩)]) (by simp) (by simp [go_sem]) ?_
    refine (catch_panicking c w.heap.size [] w3 _ E3).mono ?_
    rintro e u' w9 ⟨rfl, rfl, e9, b9⟩
    refine ⟨_, ret15 _ rfl rfl e9, b9 _ _ B3.out (Nat.le_refl _) (by have := B3.out.size; omega), ?_⟩
    rfl
  | ok m =>
    obtain ⟨rfl, W3⟩ := h3
    obtain ⟨v, r3, o3⟩ := W3
    have z : w3.cell? ⟨w.heap.size + 1, 0, none⟩ = some v := row_cell r3 rfl
    have te : w3.cell? ⟨w.heap.size, 0, none⟩ = some (.int .i64 0) := row_cell E3 rfl
    have ze : w3.frozen? ⟨w.heap.size, 0, none⟩ = false := frozen_of_row _ _ 0 _ 34 E3
    have hre : w3.setCell ⟨w.heap.size, 0, none⟩ (.int .i64 0) = w3 := setCell_self E3 rfl
    have HO : Hid (Own w.heap.size w3 v m) := own_lower o3 (by omega)
    obtain ⟨p, c', rfl⟩ := own_shape o3
    have HRe : Hid (_ = w3) := hre
    have HE3 : Hid (w3.heap[w.heap.size]? = _) := E3
    clear r3 o3 hre E3 f3
    go_wp2_with fail
    rw [HRe.out]
    refine leaves_cons (f := 40) (args := #[.pointer (some ⟨w.heap.size, 0, none⟩)]) (by simp) (by simp [go_sem]) ?_
    refine (catch_idle _ _).mono ?_
    rintro e u' w9 ⟨rfl, rfl, rfl⟩
    exact ⟨_, ret15 _ rfl rfl HE3.out, B3.out, _, rfl, HO.out⟩
end Go.Proofs.Ytjmonkhkcmcfiaa
namespace Go.Proofs.Ytjmonkhkcmcfiaa
open Go.ChangeShapes Go.WideShapes Go.ChangeAt Go.RowKit
theorem LsA.below {wb w : World} {n : Nat} {a : Option Addr} {ds : List (Int × Tv)} (h : LsA wb n a ds) (hb : Below wb.heap.size wb w) : LsA w n a ds := fun i d hd => by
  obtain ⟨B, o, k, x, b, s, la, lm, lc, h0, hB, y0, y1, y2, y3, y4, y5, hi⟩ := h i d hd
  exact ⟨B, o, k, x, b, s, la, lm, lc, h0, Nat.lt_of_lt_of_le hB hb.size, cellW y0 hB hb, cellW y1 hB hb, cellW y2 hB hb, cellW y3 hB hb, cellW y4 hB hb, cellW y5 hB hb, hi.below hb⟩
theorem LsC.below {wb w : World} {n : Nat} {a : Option Addr} {ds : List (Int × ByteArray × Tv × Int)} (h : LsC wb n a ds) (hb : Below wb.heap.size wb w) : LsC w n a ds := fun i d hd => by
  obtain ⟨B, o, k, x, b, s, la, lm, lc, h0, hB, y0, y1, y2, y3, y4, y5, y6, y7, hi⟩ := h i d hd
  exact ⟨B, o, k, x, b, s, la, lm, lc, h0, Nat.lt_of_lt_of_le hB hb.size, cellW y0 hB hb, cellW y1 hB hb, cellW y2 hB hb, cellW y3 hB hb, cellW y4 hB hb, cellW y5 hB hb, cellW y6 hB hb, cellW y7 hB hb, hi.below hb⟩
set_option maxHeartbeats 2000000 in
set_option maxRecDepth 100000 in
theorem request_calls (n : Nat) (rk : Int) (f q nm : ByteArray) (k x b : Int) (s : ByteArray) (a : Option Addr) (m c : Nat) (t : Tv) (ru nu wa pf : Int) (pc : Nat) (pm : Int) (ca : Option Addr) (cn cc : Nat) (aa : Option Addr) (an ac : Nat) (cds : List (Int × ByteArray × Tv × Int)) (ads : List (Int × Tv)) (w : World)
    (hI : Is w n (.agg #[.int .i64 k, .int .i64 x, .int .u64 b, .string s, .slice a m c]) t) (hcn : cds.length = cn) (hci : LsC w n ca cds) (han : ads.length = an) (hai : LsA w n aa ads) :
    Calls Try.prog 7 #[.agg #[.int .i64 rk, .string f, .string q, .string nm, .int .i64 k, .int .i64 x, .int .u64 b, .string s, .slice a m c, .int .i64 ru, .int .i64 nu, .int .i64 wa, .int .i64 pf, .int .u64 (pc : Int), .int .i64 pm, .slice ca cn cc, .slice aa an ac]] w (CxP w (qR (rB n rk f q nm t ru nu wa pf pc pm cds ads))) := by
  have hmf : ∀ (fn : Fn) (first cap : Array Value) (w : World), (Instr.makeFunc fn first cap).run Try.prog w = .ok (.func fn first cap) w := fun _ _ _ _ => rfl
  obtain ⟨W1, hW1⟩ : ∃ W1, W1 = w.alloc (.cells #[.int .i64 rk, .string f, .string q, .string nm, .int .i64 k, .int .i64 x, .int .u64 b, .string s, .slice a m c, .int .i64 ru, .int .i64 nu, .int .i64 wa, .int .i64 pf, .int .u64 (pc : Int), .int .i64 pm, .slice ca cn cc, .slice aa an ac] 31) := ⟨_, rfl⟩
  have b1 : Below w.heap.size w W1 := by rw [hW1]; exact bel1 _ _
  have hrow : W1.heap[w.heap.size]? = some (.cells #[.int .i64 rk, .string f, .string q, .string nm, .int .i64 k, .int .i64 x, .int .u64 b, .string s, .slice a m c, .int .i64 ru, .int .i64 nu, .int .i64 wa, .int .i64 pf, .int .u64 (pc : Int), .int .i64 pm, .slice ca cn cc, .slice aa an ac] 31 (0, 0)) := by rw [hW1]; exact heap_alloc_new w _
  have CC : Hid (Calls Try.prog 15 #[.func (.func 16) #[] #[.pointer (some ⟨w.heap.size, 0, none⟩)]] W1 (CxP W1 (qR (rB n rk f q nm t ru nu wa pf pc pm cds ads)))) := caught_calls w.heap.size _ W1 fun W g hb hg hW =>
    w16_calls n g w.heap.size rk f q nm k x b s a m c t ru nu wa pf pc pm ca cn cc aa an ac cds ads W1 W hW hb hg hrow (hI.below b1) hcn (hci.below b1) han (hai.below b1)
  have B1 : Hid (Below w.heap.size w W1) := b1
  have HW1 : Hid (W1 = _) := hW1
  obtain ⟨r, hr⟩ : ∃ r, r = qR (rB n rk f q nm t ru nu wa pf pc pm cds ads) := ⟨_, rfl⟩
  rw [← hr] at CC ⊢
  clear hI hcn hci han hai hW1 b1 hrow hr
  go_enter Try.func7, Try.ntmps7
  go_wp2_with fail
  rw [← HW1.out]
  refine Calls.mono CC.out ?_
  rintro e w2 ⟨b2, h2⟩
  have B2 : Hid (Below w.heap.size w w2) := bel2 B1.out b2
  cases r with
  | error cd =>
    have h2' : e = .returned (.tuple #[.slice none 0 0, .int .i64 cd]) := h2
    subst h2'
    clear b2 h2
    go_wp2_with fail
    go_ret2
    exact ⟨B2.out, rfl⟩
  | ok l =>
    obtain ⟨v, rfl, o2⟩ := h2
    have HO : Hid (Own w.heap.size w2 v l) := own_lower o2 B1.out.size
    obtain ⟨p, c', rfl⟩ := own_shape o2
    clear b2 o2
    go_wp2_with fail
    go_ret2
    exact ⟨B2.out, _, rfl, HO.out⟩
end Go.Proofs.Ytjmonkhkcmcfiaa
namespace Go.Proofs.Ytjmonkhkcmcfiaa
open Go.ChangeShapes Go.WideShapes Go.ChangeAt Go.RowKit
theorem st_lt {w : World} {g h : Nat} {l : List UInt8} {e : Int} (r : St w g h l e) : g < w.heap.size := by
  rcases r with ⟨_, p, c, a0, _⟩ | ⟨_, _, a0, _⟩
  · exact World.block_lt_of_cell? w _ a0
  · exact World.block_lt_of_cell? w _ a0
theorem St.alloc {w : World} {g h : Nat} {l : List UInt8} {e : Int} (r : St w g h l e) (hh : h < w.heap.size) (o : Obj) : St (w.alloc o) g h l e :=
  r.kb (g' := w.heap.size) (KB.of_below (bel1 w o)) (Nat.ne_of_lt (st_lt r)) (Nat.ne_of_lt hh)
theorem rs_alloc {w : World} {o : Obj} {g h : Nat} {v : Value} {l : List UInt8} {e : Int} {x : Ending} {w' : World} (r : Rs (w.alloc o) g h v l e x w') : Rs w g h v l e x w' := ⟨r.1, r.2.1, (KB.of_below (bel1 w o)).trans r.2.2⟩
set_option maxHeartbeats 1000000 in
set_option maxRecDepth 100000 in
theorem rnum_calls (w : World) (g h : Nat) (l : List UInt8) (e : Int) (r : St w g h l e) (hh : h < w.heap.size) :
    Calls Try.prog 59 #[.agg #[.pointer (some ⟨g, 0, none⟩)]] w (Rs w g h (.int .i64 (sNum 4611686018427387904 l e).1) (sNum 4611686018427387904 l e).2.1 (sNum 4611686018427387904 l e).2.2) := by
  have N0 : Hid (Calls Try.prog 56 _ (w.alloc (.cells #[.pointer (some ⟨g, 0, none⟩)] 79)) _) := num_st (w.alloc (.cells #[.pointer (some ⟨g, 0, none⟩)] 79)) g h l e 4611686018427387904 (r.alloc hh _)
  generalize sNum 4611686018427387904 l e = R at N0 ⊢
  clear r hh
  go_enter Try.func59, Try.ntmps59
  go_wp2_with fail
  refine Calls.mono N0.out ?_
  intro x w1 hw
  have hx := rs_alloc hw
  obtain ⟨rfl, h2, h3⟩ := hw
  clear h2 h3
  go_wp2_with fail
  go_ret
  exact hx
set_option maxHeartbeats 1000000 in
set_option maxRecDepth 100000 in
theorem rtext_calls (w : World) (g h : Nat) (l : List UInt8) (e : Int) (r : St w g h l e) (hh : h < w.heap.size) :
    Calls Try.prog 57 #[.agg #[.pointer (some ⟨g, 0, none⟩)]] w (Rs w g h (.string (str (sText 200 l e).1)) (sText 200 l e).2.1 (sText 200 l e).2.2) := by
  have N0 : Hid (Calls Try.prog 82 _ (w.alloc (.cells #[.pointer (some ⟨g, 0, none⟩)] 79)) _) := text_st (w.alloc (.cells #[.pointer (some ⟨g, 0, none⟩)] 79)) g h l e 200 (r.alloc hh _)
  generalize sText 200 l e = R at N0 ⊢
  clear r hh
  go_enter Try.func57, Try.ntmps57
  go_wp2_with fail
  refine Calls.mono N0.out ?_
  intro x w1 hw
  have hx := rs_alloc hw
  obtain ⟨rfl, h2, h3⟩ := hw
  clear h2 h3
  go_wp2_with fail
  go_ret
  exact hx
set_option maxHeartbeats 1000000 in
set_option maxRecDepth 100000 in
theorem rvalue_calls (w : World) (g h : Nat) (l : List UInt8) (e : Int) (r : St w g h l e) (hh : h < w.heap.size) (hl : l.length ≤ 281474976710656) :
    Calls Try.prog 58 #[.agg #[.pointer (some ⟨g, 0, none⟩)]] w (RdP w g h 5 (rdR l e)) := by
  obtain ⟨A, hA⟩ : ∃ A, A = w.alloc (.cells #[.pointer (some ⟨g, 0, none⟩)] 79) := ⟨_, rfl⟩
  have rA : St A g h l e := by rw [hA]; exact r.alloc hh _
  have hsA : A.heap.size = w.heap.size + 1 := by rw [hA]; simp
  have bA : Below w.heap.size w A := by rw [hA]; exact bel1 _ _
  have cA : A.cell? ⟨w.heap.size, 0, none⟩ = some (.pointer (some ⟨g, 0, none⟩)) := by rw [hA]; exact row_cell (heap_alloc_new w _) rfl
  have hg := st_lt r
  obtain ⟨Z, hZ⟩ : ∃ Z, Z = A.alloc (.cells #[.int .i64 0, .int .i64 0, .int .u64 0, .string ⟨#[]⟩, .slice none 0 0] 25) := ⟨_, rfl⟩
  have rZ : St Z g h l e := by rw [hZ]; exact rA.alloc (by omega) _
  have hsZ : Z.heap.size = A.heap.size + 1 := by rw [hZ]; simp
  have bZ : Below A.heap.size A Z := by rw [hZ]; exact bel1 _ _
  have atZ : At5 Z A.heap.size 0 (.int .i64 0) (.int .i64 0) (.int .u64 0) (.string ⟨#[]⟩) (.slice none 0 0) := by rw [hZ]; exact box_at A _ _ _ _ _
  have frZ : ∀ o, Z.frozen? ⟨A.heap.size, o, none⟩ = false := by rw [hZ]; exact fresh A _
  have N0 : Hid (Calls Try.prog 83 #[.pointer (some ⟨g, 0, none⟩)] Z (RdP Z g h 5 (rdR l e))) := readv_calls Z g h l e rZ (by omega) hl
  have cZ : Z.cell? ⟨w.heap.size, 0, none⟩ = some (.pointer (some ⟨g, 0, none⟩)) := (World.cell?_of_block (w := A) (bZ.block w.heap.size (by omega))).trans cA
  have HA : Hid (A = _) := hA
  have HZ : Hid (Z = _) := hZ
  have HX : Hid (A.heap.size = w.heap.size + 1 ∧ Z.heap.size = A.heap.size + 1 ∧ g < w.heap.size ∧ h < w.heap.size ∧ Below w.heap.size w A ∧ Below A.heap.size A Z ∧ At5 Z A.heap.size 0 (.int .i64 0) (.int .i64 0) (.int .u64 0) (.string ⟨#[]⟩) (.slice none 0 0) ∧ ∀ o, Z.frozen? ⟨A.heap.size, o, none⟩ = false) := ⟨hsA, hsZ, hg, hh, bA, bZ, atZ, frZ⟩
  generalize rdR l e = R at N0 ⊢
  clear r rA rZ hA hZ hsA hsZ bA bZ atZ frZ hg hh cA
  go_enter Try.func58, Try.ntmps58
  go_upto_region 1 with fail
  rw [← HA.out, ← HZ.out]
  go_wp2_with fail
  refine Calls.mono N0.out ?_
  rintro x w1 ⟨v, rfl, hi, s1, k1⟩
  obtain ⟨vk, vx, vb, vs, va, vm, vc, rfl⟩ := hi.shape
  obtain ⟨x1, x2, x3, x4, x5, x6, x7, x8⟩ := HX.out
  have a1 : At5 w1 A.heap.size 0 _ _ _ _ _ := x7.kb k1 (by omega)
  have f1 : ∀ o, w1.frozen? ⟨A.heap.size, o, none⟩ = false := fun o => (k1.frozen (a := ⟨A.heap.size, o, none⟩) (show A.heap.size < Z.heap.size by omega) (show A.heap.size ≠ g by omega)).trans (x8 o)
  have FIN : Hid (RdP w g h 5 R (.returned (.agg #[.int .i64 vk, .int .i64 vx, .int .u64 vb, .string vs, .slice va vm vc])) (set5 w1 A.heap.size 0 (.int .i64 vk) (.int .i64 vx) (.int .u64 vb) (.string vs) (.slice va vm vc))) := by
    have kb := set5_kb w1 A.heap.size 0 (.int .i64 vk) (.int .i64 vx) (.int .u64 vb) (.string vs) (.slice va vm vc)
    have hz1 := k1.2.2.2.1
    have kw : KB g w w1 := ((KB.of_below (bel2 x5 x6)).trans k1)
    exact ⟨_, rfl, (hi.kb kb (by omega)).lower (by omega), s1.keep kb.2.2.2.1 (kb.2.2.2.2 g (by omega) (by omega)) (kb.2.2.2.2 h (by omega) (by omega)), kb_below kw (kb.below (by omega) (by omega))⟩
  have A1 : Hid (At5 w1 A.heap.size 0 (.int .i64 0) (.int .i64 0) (.int .u64 0) (.string ⟨#[]⟩) (.slice none 0 0)) := a1
  rw [x1] at a1 f1 FIN A1
  obtain ⟨b0, b1, b2, b3, b4⟩ := a1
  have e0 := f1 0
  have e1 := f1 1
  have e2 := f1 2
  have e3 := f1 3
  have e4 := f1 4
  clear hi s1 k1 f1 x1 x2 x3 x4 x5 x6 x7 x8 cZ
  go_wp2_with fail
  refine bodyPost_ret (ret5 Try.results58 _ (g := w.heap.size + 1) rfl (set5_at A1.out (.int .i64 vk) (.int .i64 vx) (.int .u64 vb) (.string vs) (.slice va vm vc))) rfl ?_
  exact FIN.out
end Go.Proofs.Ytjmonkhkcmcfiaa
namespace Go.Proofs.Ytjmonkhkcmcfiaa
open Go.ChangeShapes Go.WideShapes Go.ChangeAt Go.RowKit
theorem infoR27 : (Try.prog.info? 27).map (·.size) = some 3 := by kernel_rfl
theorem infoR73 : (Try.prog.info? 73).map (·.size) = some 6 := by kernel_rfl
theorem infoR71 : (Try.prog.info? 71).map (·.size) = some 8 := by kernel_rfl
theorem free_row {w : World} {g t : Nat} {cs : Array Value} (h : w.heap[g]? = some (.cells cs t (0, 0))) (i : Nat) : w.frozen? ⟨g, i, none⟩ = false := by simp [World.frozen?, h]
/-- The world while a struct is read: the reader's box, the result's, its own, and the reader. -/
structure Rb (T : TypeId) (zs : Array Value) (w W : World) (g h : Nat) (l : List UInt8) (e : Int) (cs : Array Value) : Prop where
  gw : g < w.heap.size
  hw : h < w.heap.size
  rd : W.heap[w.heap.size]? = some (.cells #[.pointer (some ⟨g, 0, none⟩)] 79 (0, 0))
  res : W.heap[w.heap.size + 1]? = some (.cells zs T (0, 0))
  own : W.heap[w.heap.size + 2]? = some (.cells cs T (0, 0))
  st : St W g h l e
  kb : KB g w W
theorem Rb.lt {T : TypeId} {zs : Array Value} {w W : World} {g h : Nat} {l : List UInt8} {e : Int} {cs : Array Value} (m : Rb T zs w W g h l e cs) : w.heap.size + 2 < W.heap.size := (Array.getElem?_eq_some_iff.1 m.own).1
theorem Rb.first {T : TypeId} {zs : Array Value} {w : World} {g h : Nat} {l : List UInt8} {e : Int} (s : St w g h l e) (hh : h < w.heap.size) : Rb T zs w (((w.alloc (.cells #[.pointer (some ⟨g, 0, none⟩)] 79)).alloc (.cells zs T)).alloc (.cells zs T)) g h l e zs := by
  have hg := st_lt s
  have b1 := bel1 w (.cells #[.pointer (some ⟨g, 0, none⟩)] 79)
  have h1 := heap_alloc_new w (.cells #[.pointer (some ⟨g, 0, none⟩)] 79)
  have z1 : (w.alloc (.cells #[.pointer (some ⟨g, 0, none⟩)] 79)).heap.size = w.heap.size + 1 := by simp
  have b2 := bel1 (w.alloc (.cells #[.pointer (some ⟨g, 0, none⟩)] 79)) (.cells zs T)
  have h2 := heap_alloc_new (w.alloc (.cells #[.pointer (some ⟨g, 0, none⟩)] 79)) (.cells zs T)
  have z2 : ((w.alloc (.cells #[.pointer (some ⟨g, 0, none⟩)] 79)).alloc (.cells zs T)).heap.size = w.heap.size + 2 := by simp
  have b3 := bel1 ((w.alloc (.cells #[.pointer (some ⟨g, 0, none⟩)] 79)).alloc (.cells zs T)) (.cells zs T)
  have h3 := heap_alloc_new ((w.alloc (.cells #[.pointer (some ⟨g, 0, none⟩)] 79)).alloc (.cells zs T)) (.cells zs T)
  rw [z1] at h2
  rw [z2] at h3
  have bb := bel2 b1 (bel2 b2 b3)
  exact ⟨hg, hh, ((bel2 b2 b3).block _ (by omega)).trans h1, (b3.block _ (by omega)).trans h2, h3, s.keep bb.size (bb.block g hg) (bb.block h hh), KB.of_below bb⟩
theorem Rb.step {T : TypeId} {zs : Array Value} {w W w' : World} {g h : Nat} {l l' : List UInt8} {e e' : Int} {cs : Array Value} (m : Rb T zs w W g h l e cs) (s : St w' g h l' e') (k : KB g W w') : Rb T zs w w' g h l' e' cs := by
  have a := m.lt
  have b := m.gw
  exact ⟨b, m.hw, (k.2.2.2.2 _ (by omega) (by omega)).trans m.rd, (k.2.2.2.2 _ (by omega) (by omega)).trans m.res, (k.2.2.2.2 _ a (by omega)).trans m.own, s, m.kb.trans k⟩
theorem Rb.put {T : TypeId} {zs : Array Value} {w W : World} {g h : Nat} {l : List UInt8} {e : Int} {cs : Array Value} (m : Rb T zs w W g h l e cs) (i : Nat) (u : Value) : Rb T zs w (W.setCell ⟨w.heap.size + 2, i, none⟩ u) g h l e (cs.setIfInBounds i u) := by
  have a := m.lt
  have b := m.gw
  have c := m.hw
  have hb : ∀ B, B ≠ w.heap.size + 2 → (W.setCell ⟨w.heap.size + 2, i, none⟩ u).heap[B]? = W.heap[B]? := fun B hB => Below.heap_setCell _ _ _ _ hB
  have hsz : (W.setCell ⟨w.heap.size + 2, i, none⟩ u).heap.size = W.heap.size := by simp [World.setCell]
  exact ⟨b, c, (hb _ (by omega)).trans m.rd, (hb _ (by omega)).trans m.res, heap_setCell_same W _ i cs T u m.own, m.st.keep (by omega) (hb g (by omega)) (hb h (by omega)), kb_below m.kb ((KB.setCell _ W i u).below (by omega) (by omega))⟩
theorem Rb.cell {T : TypeId} {zs : Array Value} {w W : World} {g h : Nat} {l : List UInt8} {e : Int} {cs : Array Value} (m : Rb T zs w W g h l e cs) (i : Nat) {v : Value} (hv : cs[i]? = some v) : W.cell? ⟨w.heap.size + 2, i, none⟩ = some v := row_cell m.own hv
theorem Rb.free {T : TypeId} {zs : Array Value} {w W : World} {g h : Nat} {l : List UInt8} {e : Int} {cs : Array Value} (m : Rb T zs w W g h l e cs) (i : Nat) : W.frozen? ⟨w.heap.size + 2, i, none⟩ = false := free_row m.own i
theorem Rb.rcell {T : TypeId} {zs : Array Value} {w W : World} {g h : Nat} {l : List UInt8} {e : Int} {cs : Array Value} (m : Rb T zs w W g h l e cs) : W.cell? ⟨w.heap.size, 0, none⟩ = some (.pointer (some ⟨g, 0, none⟩)) := row_cell m.rd rfl
theorem kb_setRow {g q : Nat} {w W : World} {cs : Array Value} (h : KB g w W) (hq : w.heap.size ≤ q) : KB g w (W.setRow q cs) :=
  ⟨h.1, h.2.1, h.2.2.1, by rw [setRow_size]; exact h.2.2.2.1, fun i hi hg => (setRow_other W q i cs (by omega)).trans (h.2.2.2.2 i hi hg)⟩
theorem Rb.fin {T : TypeId} {zs : Array Value} {w W : World} {g h : Nat} {l : List UInt8} {e : Int} {cs : Array Value} (m : Rb T zs w W g h l e cs) : St (W.setRow (w.heap.size + 1) cs) g h l e ∧ KB g w (W.setRow (w.heap.size + 1) cs) ∧ (W.setRow (w.heap.size + 1) cs).heap[w.heap.size + 1]? = some (.cells cs T (0, 0)) ∧ ∀ i, i ≠ w.heap.size + 1 → (W.setRow (w.heap.size + 1) cs).heap[i]? = W.heap[i]? := by
  have b := m.gw
  have c := m.hw
  have ho : ∀ i, i ≠ w.heap.size + 1 → (W.setRow (w.heap.size + 1) cs).heap[i]? = W.heap[i]? := fun i hi => setRow_other W _ i cs hi
  exact ⟨m.st.keep (by rw [setRow_size]; omega) (ho g (by omega)) (ho h (by omega)), kb_setRow m.kb (by omega), setRow_heap W _ zs cs T (0, 0) m.res, ho⟩
/-- Lists' blocks from lo on stay. -/
theorem IsN.kept {lo : Nat} {w w' : World} (hk : ∀ B, lo ≤ B → B < w.heap.size → w'.heap[B]? = w.heap[B]?) {n : Nat} {v : Value} {t : Tv} (h : IsN lo w n v t) : IsN lo w' n v t :=
  (h.isQ (P := fun B => lo ≤ B) (fun _ h _ => h)).keep (P' := fun B => lo ≤ B) (fun B h hl => ⟨hk B h hl, h⟩) |>.isN (fun _ h => h)
/-- What a call that reads leaves: a struct that is the data r, in blocks of the call's own. -/
def RrP {α : Type} (El : (Value → Tv → Prop) → Array Value → α → Prop) (w : World) (g h : Nat) (r : α × List UInt8 × Int) (x : Ending) (w' : World) : Prop :=
  ∃ row, x = .returned (.agg row) ∧ El (IsN w.heap.size w' 5) row r.1 ∧ St w' g h r.2.1 r.2.2 ∧ KB g w w'
def ElA (I : Value → Tv → Prop) (r : Array Value) (d : Int × Tv) : Prop := ∃ k x b s la lm lc, r = #[.int .i64 d.1, .int .i64 k, .int .i64 x, .int .u64 b, .string s, .slice la lm lc] ∧ I (.agg #[.int .i64 k, .int .i64 x, .int .u64 b, .string s, .slice la lm lc]) d.2
def ElC (I : Value → Tv → Prop) (r : Array Value) (d : Int × ByteArray × Tv × Int) : Prop := ∃ k x b s la lm lc, r = #[.int .i64 d.1, .string d.2.1, .int .i64 k, .int .i64 x, .int .u64 b, .string s, .slice la lm lc, .int .i64 d.2.2.2] ∧ I (.agg #[.int .i64 k, .int .i64 x, .int .u64 b, .string s, .slice la lm lc]) d.2.2.1
def rdPo (l : List UInt8) (e : Int) : (Int × Nat × Int) × List UInt8 × Int :=
  let a := sNum 4611686018427387904 l e
  let b := sBits a.2.1 a.2.2
  let c := sNum 4611686018427387904 b.2.1 b.2.2
  ((a.1, b.1, c.1), c.2)
def rdAn (l : List UInt8) (e : Int) : (Int × Tv) × List UInt8 × Int :=
  let a := sNum 4611686018427387904 l e
  let b := rdR a.2.1 a.2.2
  ((a.1, b.1), b.2)
def rdCo (l : List UInt8) (e : Int) : (Int × ByteArray × Tv × Int) × List UInt8 × Int :=
  let a := sNum 255 l e
  let b := sText 200 a.2.1 a.2.2
  let c := rdR b.2.1 b.2.2
  let d := sNum 4611686018427387904 c.2.1 c.2.2
  ((a.1, str b.1, c.1, d.1), d.2)
set_option maxHeartbeats 4000000 in
set_option maxRecDepth 100000 in
theorem rpolicy_calls (w : World) (g h : Nat) (l : List UInt8) (e : Int) (r : St w g h l e) (hh : h < w.heap.size) :
    Calls Try.prog 60 #[.agg #[.pointer (some ⟨g, 0, none⟩)]] w (Rs w g h (.agg #[.int .i64 (rdPo l e).1.1, .int .u64 ((rdPo l e).1.2.1 : Int), .int .i64 (rdPo l e).1.2.2]) (rdPo l e).2.1 (rdPo l e).2.2) := by
  obtain ⟨W0, hW0⟩ : ∃ W0, W0 = (((w.alloc (.cells #[.pointer (some ⟨g, 0, none⟩)] 79)).alloc (.cells #[.int .i64 0, .int .u64 0, .int .i64 0] 27)).alloc (.cells #[.int .i64 0, .int .u64 0, .int .i64 0] 27)) := ⟨_, rfl⟩
  have M0 : Hid (Rb 27 #[.int .i64 0, .int .u64 0, .int .i64 0] w W0 g h l e #[.int .i64 0, .int .u64 0, .int .i64 0]) := by rw [hW0]; exact Rb.first r hh
  have HW0 : Hid (W0 = (((w.alloc (.cells #[.pointer (some ⟨g, 0, none⟩)] 79)).alloc (.cells #[.int .i64 0, .int .u64 0, .int .i64 0] 27)).alloc (.cells #[.int .i64 0, .int .u64 0, .int .i64 0] 27))) := hW0
  have HG : Hid (g < w.heap.size ∧ h < w.heap.size) := ⟨M0.out.gw, M0.out.hw⟩
  have hR : rdPo l e = rdPo l e := rfl
  conv at hR => rhs; unfold rdPo
  have N1 := fun W (s : St W g h l e) (hh : h < W.heap.size) => rnum_calls W g h l e s hh
  generalize hQ1 : sNum 4611686018427387904 l e = R1 at N1 hR
  obtain ⟨p1, l1, e1⟩ := R1
  dsimp only at N1 hR
  have K1 : Hid (∀ W, St W g h l e → h < W.heap.size → Calls Try.prog 59 #[.agg #[.pointer (some ⟨g, 0, none⟩)]] W (Rs W g h (.int .i64 p1) l1 e1)) := N1
  clear N1 hQ1
  have N2 := fun W (s : St W g h l1 e1) (hh : h < W.heap.size) => bits_st W g h l1 e1 s
  generalize hQ2 : sBits l1 e1 = R2 at N2 hR
  obtain ⟨p2, l2, e2⟩ := R2
  dsimp only at N2 hR
  have K2 : Hid (∀ W, St W g h l1 e1 → h < W.heap.size → Calls Try.prog 84 #[.pointer (some ⟨g, 0, none⟩)] W (Rs W g h (.int .u64 (p2 : Int)) l2 e2)) := N2
  clear N2 hQ2
  have N3 := fun W (s : St W g h l2 e2) (hh : h < W.heap.size) => rnum_calls W g h l2 e2 s hh
  generalize hQ3 : sNum 4611686018427387904 l2 e2 = R3 at N3 hR
  obtain ⟨p3, l3, e3⟩ := R3
  dsimp only at N3 hR
  have K3 : Hid (∀ W, St W g h l2 e2 → h < W.heap.size → Calls Try.prog 59 #[.agg #[.pointer (some ⟨g, 0, none⟩)]] W (Rs W g h (.int .i64 p3) l3 e3)) := N3
  clear N3 hQ3
  have HP : Hid (rdPo l e = _) := hR
  clear hW0 r hh hR
  go_enter Try.func60, Try.ntmps60
  go_upto_region 2 with fail
  rw [← HW0.out]
  have rc0 := M0.out.rcell
  go_wp2_with fail
  clear rc0
  refine (K1.out _ M0.out.st (by have := M0.out.hw; have := M0.out.lt; omega)).mono ?_
  rintro x w1 ⟨rfl, s1, k1⟩
  have Ma1 := M0.out.step s1 k1
  have a0 := Ma1.cell 0 (v := .int .i64 0) rfl
  have f0 := Ma1.free 0
  obtain ⟨W1, hW1⟩ : ∃ W1, W1 = (w1).setCell ⟨w.heap.size + 2, 0, none⟩ (.int .i64 p1) := ⟨_, rfl⟩
  have M1 : Hid (Rb 27 #[.int .i64 0, .int .u64 0, .int .i64 0] w W1 g h l1 e1 #[.int .i64 p1, .int .u64 0, .int .i64 0]) := by rw [hW1]; exact (Ma1).put 0 (.int .i64 p1)
  have HW1 : Hid (W1 = (w1).setCell ⟨w.heap.size + 2, 0, none⟩ (.int .i64 p1)) := hW1
  have kk1 : ∀ B, w.heap.size + 3 ≤ B → B < w1.heap.size → W1.heap[B]? = w1.heap[B]? := fun B h1 h2 => by rw [hW1]; exact (Below.heap_setCell _ _ _ _ (show _ ≠ w.heap.size + 2 by omega))
  clear hW1 kk1 Ma1 s1 k1
  go_upto_region 3 with fail
  rw [← HW1.out]
  clear a0 f0
  have rc1 := M1.out.rcell
  go_wp2_with fail
  clear rc1
  refine (K2.out _ M1.out.st (by have := M1.out.hw; have := M1.out.lt; omega)).mono ?_
  rintro x w2 ⟨rfl, s2, k2⟩
  have Ma2 := M1.out.step s2 k2
  have a1 := Ma2.cell 1 (v := .int .u64 0) rfl
  have f1 := Ma2.free 1
  obtain ⟨W2, hW2⟩ : ∃ W2, W2 = (w2).setCell ⟨w.heap.size + 2, 1, none⟩ (.int .u64 (p2 : Int)) := ⟨_, rfl⟩
  have M2 : Hid (Rb 27 #[.int .i64 0, .int .u64 0, .int .i64 0] w W2 g h l2 e2 #[.int .i64 p1, .int .u64 (p2 : Int), .int .i64 0]) := by rw [hW2]; exact (Ma2).put 1 (.int .u64 (p2 : Int))
  have HW2 : Hid (W2 = (w2).setCell ⟨w.heap.size + 2, 1, none⟩ (.int .u64 (p2 : Int))) := hW2
  have kk2 : ∀ B, w.heap.size + 3 ≤ B → B < w2.heap.size → W2.heap[B]? = w2.heap[B]? := fun B h1 h2 => by rw [hW2]; exact (Below.heap_setCell _ _ _ _ (show _ ≠ w.heap.size + 2 by omega))
  clear hW2 kk2 Ma2 s2 k2
  go_upto_region 4 with fail
  rw [← HW2.out]
  clear a1 f1
  have rc2 := M2.out.rcell
  go_wp2_with fail
  clear rc2
  refine (K3.out _ M2.out.st (by have := M2.out.hw; have := M2.out.lt; omega)).mono ?_
  rintro x w3 ⟨rfl, s3, k3⟩
  have Ma3 := M2.out.step s3 k3
  have a2 := Ma3.cell 2 (v := .int .i64 0) rfl
  have f2 := Ma3.free 2
  obtain ⟨W3, hW3⟩ : ∃ W3, W3 = (w3).setCell ⟨w.heap.size + 2, 2, none⟩ (.int .i64 p3) := ⟨_, rfl⟩
  have M3 : Hid (Rb 27 #[.int .i64 0, .int .u64 0, .int .i64 0] w W3 g h l3 e3 #[.int .i64 p1, .int .u64 (p2 : Int), .int .i64 p3]) := by rw [hW3]; exact (Ma3).put 2 (.int .i64 p3)
  have HW3 : Hid (W3 = (w3).setCell ⟨w.heap.size + 2, 2, none⟩ (.int .i64 p3)) := hW3
  have kk3 : ∀ B, w.heap.size + 3 ≤ B → B < w3.heap.size → W3.heap[B]? = w3.heap[B]? := fun B h1 h2 => by rw [hW3]; exact (Below.heap_setCell _ _ _ _ (show _ ≠ w.heap.size + 2 by omega))
  clear hW3 kk3 Ma3 s3 k3
  go_upto_region 5 with fail
  rw [← HW3.out]
  clear a2 f2
  have A1 : Hid ((#[.int .i64 p1, .int .u64 (p2 : Int), .int .i64 p3] : Array Value).all (·.oneCell') = true) := by show _ = _; simp [Value.oneCell']
  have ho := M3.out.own
  have hr := M3.out.res
  have FIN : Hid _ := M3.out.fin
  have LT : Hid _ := M3.out.lt
  have GW : Hid _ := M3.out.gw
  go_wp2_with (first | refine wpList_load_row rfl 27 _ rfl (w.heap.size + 2) rfl 27 _ (0, 0) _ ho Try.underlying27 rfl infoR27 ?_ | refine wpList_store_row rfl 27 _ _ rfl (w.heap.size + 1) _ rfl rfl 27 _ hr infoR27 rfl A1.out ?_)
  refine bodyPost_ret (results_cell_row Try.results60 _ _ (w.heap.size + 1) 27 _ (0, 0) _ ?_ FIN.out.2.2.1 Try.underlying27 rfl infoR27) ?_ ?_
  · rfl
  · rfl
  rw [HP.out]
  exact ⟨rfl, FIN.out.1, FIN.out.2.1⟩
theorem rdR_len (l : List UInt8) (e : Int) : (rdR l e).2.1.length ≤ l.length := by
  have h := rdV_len 4 l e
  have h2 := flL_len (rdV 4 l e).2.1 (rdV 4 l e).2.2
  unfold rdR afR
  split
  · exact Nat.le_trans h2 h
  · split
    · exact h
    · exact h
set_option maxHeartbeats 4000000 in
set_option maxRecDepth 100000 in
theorem ranswer_calls (w : World) (g h : Nat) (l : List UInt8) (e : Int) (r : St w g h l e) (hh : h < w.heap.size) (hl : l.length ≤ 281474976710656) :
    Calls Try.prog 64 #[.agg #[.pointer (some ⟨g, 0, none⟩)]] w (RrP ElA w g h (rdAn l e)) := by
  obtain ⟨W0, hW0⟩ : ∃ W0, W0 = (((w.alloc (.cells #[.pointer (some ⟨g, 0, none⟩)] 79)).alloc (.cells #[.int .i64 0, .int .i64 0, .int .i64 0, .int .u64 0, .string ⟨#[]⟩, .slice none 0 0] 73)).alloc (.cells #[.int .i64 0, .int .i64 0, .int .i64 0, .int .u64 0, .string ⟨#[]⟩, .slice none 0 0] 73)) := ⟨_, rfl⟩
  have M0 : Hid (Rb 73 #[.int .i64 0, .int .i64 0, .int .i64 0, .int .u64 0, .string ⟨#[]⟩, .slice none 0 0] w W0 g h l e #[.int .i64 0, .int .i64 0, .int .i64 0, .int .u64 0, .string ⟨#[]⟩, .slice none 0 0]) := by rw [hW0]; exact Rb.first r hh
  have HW0 : Hid (W0 = (((w.alloc (.cells #[.pointer (some ⟨g, 0, none⟩)] 79)).alloc (.cells #[.int .i64 0, .int .i64 0, .int .i64 0, .int .u64 0, .string ⟨#[]⟩, .slice none 0 0] 73)).alloc (.cells #[.int .i64 0, .int .i64 0, .int .i64 0, .int .u64 0, .string ⟨#[]⟩, .slice none 0 0] 73))) := hW0
  have HG : Hid (g < w.heap.size ∧ h < w.heap.size) := ⟨M0.out.gw, M0.out.hw⟩
  have hR : rdAn l e = rdAn l e := rfl
  conv at hR => rhs; unfold rdAn
  have N1 := fun W (s : St W g h l e) (hh : h < W.heap.size) => rnum_calls W g h l e s hh
  have g1 := sNum_len 4611686018427387904 l e
  generalize hQ1 : sNum 4611686018427387904 l e = R1 at N1 hR g1
  obtain ⟨op, l1, e1⟩ := R1
  dsimp only at N1 hR g1
  have K1 : Hid (∀ W, St W g h l e → h < W.heap.size → Calls Try.prog 59 #[.agg #[.pointer (some ⟨g, 0, none⟩)]] W (Rs W g h (.int .i64 op) l1 e1)) := N1
  clear N1 hQ1
  have N2 := fun W (s : St W g h l1 e1) (hh : h < W.heap.size) => rvalue_calls W g h l1 e1 s hh (by omega)
  have g2 := rdR_len l1 e1
  generalize hQ2 : rdR l1 e1 = R2 at N2 hR g2
  obtain ⟨tv, l2, e2⟩ := R2
  dsimp only at N2 hR g2
  have K2 : Hid (∀ W, St W g h l1 e1 → h < W.heap.size → Calls Try.prog 58 #[.agg #[.pointer (some ⟨g, 0, none⟩)]] W (RdP W g h 5 (tv, l2, e2))) := N2
  clear N2 hQ2
  have HP : Hid (rdAn l e = _) := hR
  clear hW0 r hh hR hl g1 g2
  go_enter Try.func64, Try.ntmps64
  go_upto_region 2 with fail
  rw [← HW0.out]
  have rc0 := M0.out.rcell
  go_wp2_with fail
  clear rc0
  refine (K1.out _ M0.out.st (by have := M0.out.hw; have := M0.out.lt; omega)).mono ?_
  rintro x w1 ⟨rfl, s1, k1⟩
  have Ma1 := M0.out.step s1 k1
  have a0 := Ma1.cell 0 (v := .int .i64 0) rfl
  have f0 := Ma1.free 0
  obtain ⟨W1, hW1⟩ : ∃ W1, W1 = (w1).setCell ⟨w.heap.size + 2, 0, none⟩ (.int .i64 op) := ⟨_, rfl⟩
  have M1 : Hid (Rb 73 #[.int .i64 0, .int .i64 0, .int .i64 0, .int .u64 0, .string ⟨#[]⟩, .slice none 0 0] w W1 g h l1 e1 #[.int .i64 op, .int .i64 0, .int .i64 0, .int .u64 0, .string ⟨#[]⟩, .slice none 0 0]) := by rw [hW1]; exact (Ma1).put 0 (.int .i64 op)
  have HW1 : Hid (W1 = (w1).setCell ⟨w.heap.size + 2, 0, none⟩ (.int .i64 op)) := hW1
  have kk1 : ∀ B, w.heap.size + 3 ≤ B → B < w1.heap.size → W1.heap[B]? = w1.heap[B]? := fun B h1 h2 => by rw [hW1]; exact (Below.heap_setCell _ _ _ _ (show _ ≠ w.heap.size + 2 by omega))
  clear hW1 kk1 Ma1 s1 k1
  go_upto_region 3 with fail
  rw [← HW1.out]
  clear a0 f0
  have rc1 := M1.out.rcell
  go_wp2_with fail
  clear rc1
  refine (K2.out _ M1.out.st (by have := M1.out.hw; have := M1.out.lt; omega)).mono ?_
  rintro x w2 ⟨v2, rfl, hi2, s2, k2⟩
  dsimp only at hi2 s2
  obtain ⟨vk, vx, vb, vs, la, ll, lc, rfl⟩ := hi2.shape
  have Ma2 := M1.out.step s2 k2
  have a1 := Ma2.cell 1 (v := .int .i64 0) rfl
  have f1 := Ma2.free 1
  have a2 := Ma2.cell 2 (v := .int .i64 0) rfl
  have f2 := Ma2.free 2
  have a3 := Ma2.cell 3 (v := .int .u64 0) rfl
  have f3 := Ma2.free 3
  have a4 := Ma2.cell 4 (v := .string ⟨#[]⟩) rfl
  have f4 := Ma2.free 4
  have a5 := Ma2.cell 5 (v := .slice none 0 0) rfl
  have f5 := Ma2.free 5
  obtain ⟨W2, hW2⟩ : ∃ W2, W2 = (((((w2).setCell ⟨w.heap.size + 2, 1, none⟩ (.int .i64 vk)).setCell ⟨w.heap.size + 2, 2, none⟩ (.int .i64 vx)).setCell ⟨w.heap.size + 2, 3, none⟩ (.int .u64 vb)).setCell ⟨w.heap.size + 2, 4, none⟩ (.string vs)).setCell ⟨w.heap.size + 2, 5, none⟩ (.slice la ll lc) := ⟨_, rfl⟩
  have M2 : Hid (Rb 73 #[.int .i64 0, .int .i64 0, .int .i64 0, .int .u64 0, .string ⟨#[]⟩, .slice none 0 0] w W2 g h l2 e2 #[.int .i64 op, .int .i64 vk, .int .i64 vx, .int .u64 vb, .string vs, .slice la ll lc]) := by rw [hW2]; exact (((((Ma2).put 1 (.int .i64 vk)).put 2 (.int .i64 vx)).put 3 (.int .u64 vb)).put 4 (.string vs)).put 5 (.slice la ll lc)
  have HW2 : Hid (W2 = (((((w2).setCell ⟨w.heap.size + 2, 1, none⟩ (.int .i64 vk)).setCell ⟨w.heap.size + 2, 2, none⟩ (.int .i64 vx)).setCell ⟨w.heap.size + 2, 3, none⟩ (.int .u64 vb)).setCell ⟨w.heap.size + 2, 4, none⟩ (.string vs)).setCell ⟨w.heap.size + 2, 5, none⟩ (.slice la ll lc)) := hW2
  have kk2 : ∀ B, w.heap.size + 3 ≤ B → B < w2.heap.size → W2.heap[B]? = w2.heap[B]? := fun B h1 h2 => by rw [hW2]; exact (Below.heap_setCell _ _ _ _ (show _ ≠ w.heap.size + 2 by omega)) |>.trans (Below.heap_setCell _ _ _ _ (show _ ≠ w.heap.size + 2 by omega)) |>.trans (Below.heap_setCell _ _ _ _ (show _ ≠ w.heap.size + 2 by omega)) |>.trans (Below.heap_setCell _ _ _ _ (show _ ≠ w.heap.size + 2 by omega)) |>.trans (Below.heap_setCell _ _ _ _ (show _ ≠ w.heap.size + 2 by omega))
  have IV : Hid (IsN (w.heap.size + 3) W2 5 (.agg #[.int .i64 vk, .int .i64 vx, .int .u64 vb, .string vs, .slice la ll lc]) tv) := by have hz := M1.out.lt; exact (hi2.lower (by omega)).kept kk2
  clear hW2 kk2 Ma2 s2 k2 hi2
  go_upto_region 4 with fail
  rw [← HW2.out]
  clear a1 f1 a2 f2 a3 f3 a4 f4 a5 f5
  have A1 : Hid ((#[.int .i64 op, .int .i64 vk, .int .i64 vx, .int .u64 vb, .string vs, .slice la ll lc] : Array Value).all (·.oneCell') = true) := by show _ = _; simp [Value.oneCell']
  have ho := M2.out.own
  have hr := M2.out.res
  have FIN : Hid _ := M2.out.fin
  have LT : Hid _ := M2.out.lt
  have GW : Hid _ := M2.out.gw
  go_wp2_with (first | refine wpList_load_row rfl 73 _ rfl (w.heap.size + 2) rfl 73 _ (0, 0) _ ho Try.underlying73 rfl infoR73 ?_ | refine wpList_store_row rfl 73 _ _ rfl (w.heap.size + 1) _ rfl rfl 73 _ hr infoR73 rfl A1.out ?_)
  refine bodyPost_ret (results_cell_row Try.results64 _ _ (w.heap.size + 1) 73 _ (0, 0) _ ?_ FIN.out.2.2.1 Try.underlying73 rfl infoR73) ?_ ?_
  · rfl
  · rfl
  rw [HP.out]
  exact ⟨_, rfl, ⟨vk, vx, vb, vs, la, ll, lc, rfl, (IV.out.kept (fun B h1 h2 => FIN.out.2.2.2 B (by omega))).lower (by omega)⟩, FIN.out.1, FIN.out.2.1⟩
set_option maxHeartbeats 4000000 in
set_option maxRecDepth 100000 in
theorem rcommand_calls (w : World) (g h : Nat) (l : List UInt8) (e : Int) (r : St w g h l e) (hh : h < w.heap.size) (hl : l.length ≤ 281474976710656) :
    Calls Try.prog 62 #[.agg #[.pointer (some ⟨g, 0, none⟩)]] w (RrP ElC w g h (rdCo l e)) := by
  obtain ⟨W0, hW0⟩ : ∃ W0, W0 = (((w.alloc (.cells #[.pointer (some ⟨g, 0, none⟩)] 79)).alloc (.cells #[.int .i64 0, .string ⟨#[]⟩, .int .i64 0, .int .i64 0, .int .u64 0, .string ⟨#[]⟩, .slice none 0 0, .int .i64 0] 71)).alloc (.cells #[.int .i64 0, .string ⟨#[]⟩, .int .i64 0, .int .i64 0, .int .u64 0, .string ⟨#[]⟩, .slice none 0 0, .int .i64 0] 71)) := ⟨_, rfl⟩
  have M0 : Hid (Rb 71 #[.int .i64 0, .string ⟨#[]⟩, .int .i64 0, .int .i64 0, .int .u64 0, .string ⟨#[]⟩, .slice none 0 0, .int .i64 0] w W0 g h l e #[.int .i64 0, .string ⟨#[]⟩, .int .i64 0, .int .i64 0, .int .u64 0, .string ⟨#[]⟩, .slice none 0 0, .int .i64 0]) := by rw [hW0]; exact Rb.first r hh
  have HW0 : Hid (W0 = (((w.alloc (.cells #[.pointer (some ⟨g, 0, none⟩)] 79)).alloc (.cells #[.int .i64 0, .string ⟨#[]⟩, .int .i64 0, .int .i64 0, .int .u64 0, .string ⟨#[]⟩, .slice none 0 0, .int .i64 0] 71)).alloc (.cells #[.int .i64 0, .string ⟨#[]⟩, .int .i64 0, .int .i64 0, .int .u64 0, .string ⟨#[]⟩, .slice none 0 0, .int .i64 0] 71))) := hW0
  have HG : Hid (g < w.heap.size ∧ h < w.heap.size) := ⟨M0.out.gw, M0.out.hw⟩
  have hR : rdCo l e = rdCo l e := rfl
  conv at hR => rhs; unfold rdCo
  have N1 := fun W (s : St W g h l e) (hh : h < W.heap.size) => num_st W g h l e 255 s
  have g1 := sNum_len 255 l e
  generalize hQ1 : sNum 255 l e = R1 at N1 hR g1
  obtain ⟨ck, l1, e1⟩ := R1
  dsimp only at N1 hR g1
  have K1 : Hid (∀ W, St W g h l e → h < W.heap.size → Calls Try.prog 56 #[.pointer (some ⟨g, 0, none⟩), .int .i64 255] W (Rs W g h (.int .i64 ck) l1 e1)) := N1
  clear N1 hQ1
  have N2 := fun W (s : St W g h l1 e1) (hh : h < W.heap.size) => rtext_calls W g h l1 e1 s hh
  have g2 := sText_len 200 l1 e1
  generalize hQ2 : sText 200 l1 e1 = R2 at N2 hR g2
  obtain ⟨s1, l2, e2⟩ := R2
  dsimp only at N2 hR g2
  generalize str s1 = cn at N2 hR
  have K2 : Hid (∀ W, St W g h l1 e1 → h < W.heap.size → Calls Try.prog 57 #[.agg #[.pointer (some ⟨g, 0, none⟩)]] W (Rs W g h (.string cn) l2 e2)) := N2
  clear N2 hQ2
  have N3 := fun W (s : St W g h l2 e2) (hh : h < W.heap.size) => rvalue_calls W g h l2 e2 s hh (by omega)
  have g3 := rdR_len l2 e2
  generalize hQ3 : rdR l2 e2 = R3 at N3 hR g3
  obtain ⟨tv, l3, e3⟩ := R3
  dsimp only at N3 hR g3
  have K3 : Hid (∀ W, St W g h l2 e2 → h < W.heap.size → Calls Try.prog 58 #[.agg #[.pointer (some ⟨g, 0, none⟩)]] W (RdP W g h 5 (tv, l3, e3))) := N3
  clear N3 hQ3
  have N4 := fun W (s : St W g h l3 e3) (hh : h < W.heap.size) => rnum_calls W g h l3 e3 s hh
  have g4 := sNum_len 4611686018427387904 l3 e3
  generalize hQ4 : sNum 4611686018427387904 l3 e3 = R4 at N4 hR g4
  obtain ⟨dl, l4, e4⟩ := R4
  dsimp only at N4 hR g4
  have K4 : Hid (∀ W, St W g h l3 e3 → h < W.heap.size → Calls Try.prog 59 #[.agg #[.pointer (some ⟨g, 0, none⟩)]] W (Rs W g h (.int .i64 dl) l4 e4)) := N4
  clear N4 hQ4
  have HP : Hid (rdCo l e = _) := hR
  clear hW0 r hh hR hl g1 g2 g3 g4
  go_enter Try.func62, Try.ntmps62
  go_upto_region 2 with fail
  rw [← HW0.out]
  have rc0 := M0.out.rcell
  go_wp2_with fail
  clear rc0
  refine (K1.out _ M0.out.st (by have := M0.out.hw; have := M0.out.lt; omega)).mono ?_
  rintro x w1 ⟨rfl, s1, k1⟩
  have Ma1 := M0.out.step s1 k1
  have a0 := Ma1.cell 0 (v := .int .i64 0) rfl
  have f0 := Ma1.free 0
  obtain ⟨W1, hW1⟩ : ∃ W1, W1 = (w1).setCell ⟨w.heap.size + 2, 0, none⟩ (.int .i64 ck) := ⟨_, rfl⟩
  have M1 : Hid (Rb 71 #[.int .i64 0, .string ⟨#[]⟩, .int .i64 0, .int .i64 0, .int .u64 0, .string ⟨#[]⟩, .slice none 0 0, .int .i64 0] w W1 g h l1 e1 #[.int .i64 ck, .string ⟨#[]⟩, .int .i64 0, .int .i64 0, .int .u64 0, .string ⟨#[]⟩, .slice none 0 0, .int .i64 0]) := by rw [hW1]; exact (Ma1).put 0 (.int .i64 ck)
  have HW1 : Hid (W1 = (w1).setCell ⟨w.heap.size + 2, 0, none⟩ (.int .i64 ck)) := hW1
  have kk1 : ∀ B, w.heap.size + 3 ≤ B → B < w1.heap.size → W1.heap[B]? = w1.heap[B]? := fun B h1 h2 => by rw [hW1]; exact (Below.heap_setCell _ _ _ _ (show _ ≠ w.heap.size + 2 by omega))
  clear hW1 kk1 Ma1 s1 k1
  go_upto_region 3 with fail
  rw [← HW1.out]
  clear a0 f0
  have rc1 := M1.out.rcell
  go_wp2_with fail
  clear rc1
  refine (K2.out _ M1.out.st (by have := M1.out.hw; have := M1.out.lt; omega)).mono ?_
  rintro x w2 ⟨rfl, s2, k2⟩
  have Ma2 := M1.out.step s2 k2
  have a1 := Ma2.cell 1 (v := .string ⟨#[]⟩) rfl
  have f1 := Ma2.free 1
  obtain ⟨W2, hW2⟩ : ∃ W2, W2 = (w2).setCell ⟨w.heap.size + 2, 1, none⟩ (.string cn) := ⟨_, rfl⟩
  have M2 : Hid (Rb 71 #[.int .i64 0, .string ⟨#[]⟩, .int .i64 0, .int .i64 0, .int .u64 0, .string ⟨#[]⟩, .slice none 0 0, .int .i64 0] w W2 g h l2 e2 #[.int .i64 ck, .string cn, .int .i64 0, .int .i64 0, .int .u64 0, .string ⟨#[]⟩, .slice none 0 0, .int .i64 0]) := by rw [hW2]; exact (Ma2).put 1 (.string cn)
  have HW2 : Hid (W2 = (w2).setCell ⟨w.heap.size + 2, 1, none⟩ (.string cn)) := hW2
  have kk2 : ∀ B, w.heap.size + 3 ≤ B → B < w2.heap.size → W2.heap[B]? = w2.heap[B]? := fun B h1 h2 => by rw [hW2]; exact (Below.heap_setCell _ _ _ _ (show _ ≠ w.heap.size + 2 by omega))
  clear hW2 kk2 Ma2 s2 k2
  go_upto_region 4 with fail
  rw [← HW2.out]
  clear a1 f1
  have rc2 := M2.out.rcell
  go_wp2_with fail
  clear rc2
  refine (K3.out _ M2.out.st (by have := M2.out.hw; have := M2.out.lt; omega)).mono ?_
  rintro x w3 ⟨v3, rfl, hi3, s3, k3⟩
  dsimp only at hi3 s3
  obtain ⟨vk, vx, vb, vs, la, ll, lc, rfl⟩ := hi3.shape
  have Ma3 := M2.out.step s3 k3
  have a2 := Ma3.cell 2 (v := .int .i64 0) rfl
  have f2 := Ma3.free 2
  have a3 := Ma3.cell 3 (v := .int .i64 0) rfl
  have f3 := Ma3.free 3
  have a4 := Ma3.cell 4 (v := .int .u64 0) rfl
  have f4 := Ma3.free 4
  have a5 := Ma3.cell 5 (v := .string ⟨#[]⟩) rfl
  have f5 := Ma3.free 5
  have a6 := Ma3.cell 6 (v := .slice none 0 0) rfl
  have f6 := Ma3.free 6
  obtain ⟨W3, hW3⟩ : ∃ W3, W3 = (((((w3).setCell ⟨w.heap.size + 2, 2, none⟩ (.int .i64 vk)).setCell ⟨w.heap.size + 2, 3, none⟩ (.int .i64 vx)).setCell ⟨w.heap.size + 2, 4, none⟩ (.int .u64 vb)).setCell ⟨w.heap.size + 2, 5, none⟩ (.string vs)).setCell ⟨w.heap.size + 2, 6, none⟩ (.slice la ll lc) := ⟨_, rfl⟩
  have M3 : Hid (Rb 71 #[.int .i64 0, .string ⟨#[]⟩, .int .i64 0, .int .i64 0, .int .u64 0, .string ⟨#[]⟩, .slice none 0 0, .int .i64 0] w W3 g h l3 e3 #[.int .i64 ck, .string cn, .int .i64 vk, .int .i64 vx, .int .u64 vb, .string vs, .slice la ll lc, .int .i64 0]) := by rw [hW3]; exact (((((Ma3).put 2 (.int .i64 vk)).put 3 (.int .i64 vx)).put 4 (.int .u64 vb)).put 5 (.string vs)).put 6 (.slice la ll lc)
  have HW3 : Hid (W3 = (((((w3).setCell ⟨w.heap.size + 2, 2, none⟩ (.int .i64 vk)).setCell ⟨w.heap.size + 2, 3, none⟩ (.int .i64 vx)).setCell ⟨w.heap.size + 2, 4, none⟩ (.int .u64 vb)).setCell ⟨w.heap.size + 2, 5, none⟩ (.string vs)).setCell ⟨w.heap.size + 2, 6, none⟩ (.slice la ll lc)) := hW3
  have kk3 : ∀ B, w.heap.size + 3 ≤ B → B < w3.heap.size → W3.heap[B]? = w3.heap[B]? := fun B h1 h2 => by rw [hW3]; exact (Below.heap_setCell _ _ _ _ (show _ ≠ w.heap.size + 2 by omega)) |>.trans (Below.heap_setCell _ _ _ _ (show _ ≠ w.heap.size + 2 by omega)) |>.trans (Below.heap_setCell _ _ _ _ (show _ ≠ w.heap.size + 2 by omega)) |>.trans (Below.heap_setCell _ _ _ _ (show _ ≠ w.heap.size + 2 by omega)) |>.trans (Below.heap_setCell _ _ _ _ (show _ ≠ w.heap.size + 2 by omega))
  have IV : Hid (IsN (w.heap.size + 3) W3 5 (.agg #[.int .i64 vk, .int .i64 vx, .int .u64 vb, .string vs, .slice la ll lc]) tv) := by have hz := M2.out.lt; exact (hi3.lower (by omega)).kept kk3
  clear hW3 kk3 Ma3 s3 k3 hi3
  go_upto_region 5 with fail
  rw [← HW3.out]
  clear a2 f2 a3 f3 a4 f4 a5 f5 a6 f6
  have rc3 := M3.out.rcell
  go_wp2_with fail
  clear rc3
  refine (K4.out _ M3.out.st (by have := M3.out.hw; have := M3.out.lt; omega)).mono ?_
  rintro x w4 ⟨rfl, s4, k4⟩
  have Ma4 := M3.out.step s4 k4
  have a7 := Ma4.cell 7 (v := .int .i64 0) rfl
  have f7 := Ma4.free 7
  obtain ⟨W4, hW4⟩ : ∃ W4, W4 = (w4).setCell ⟨w.heap.size + 2, 7, none⟩ (.int .i64 dl) := ⟨_, rfl⟩
  have M4 : Hid (Rb 71 #[.int .i64 0, .string ⟨#[]⟩, .int .i64 0, .int .i64 0, .int .u64 0, .string ⟨#[]⟩, .slice none 0 0, .int .i64 0] w W4 g h l4 e4 #[.int .i64 ck, .string cn, .int .i64 vk, .int .i64 vx, .int .u64 vb, .string vs, .slice la ll lc, .int .i64 dl]) := by rw [hW4]; exact (Ma4).put 7 (.int .i64 dl)
  have HW4 : Hid (W4 = (w4).setCell ⟨w.heap.size + 2, 7, none⟩ (.int .i64 dl)) := hW4
  have kk4 : ∀ B, w.heap.size + 3 ≤ B → B < w4.heap.size → W4.heap[B]? = w4.heap[B]? := fun B h1 h2 => by rw [hW4]; exact (Below.heap_setCell _ _ _ _ (show _ ≠ w.heap.size + 2 by omega))
  have IVn : Hid (IsN (w.heap.size + 3) W4 5 (.agg #[.int .i64 vk, .int .i64 vx, .int .u64 vb, .string vs, .slice la ll lc]) tv) := by have hz := M3.out.gw; exact IV.out.kept (fun B h1 h2 => (kk4 B h1 (Nat.lt_of_lt_of_le h2 k4.2.2.2.1)).trans (k4.2.2.2.2 B h2 (by omega)))
  clear IV
  have IV := IVn
  clear IVn
  clear hW4 kk4 Ma4 s4 k4
  go_upto_region 6 with fail
  rw [← HW4.out]
  clear a7 f7
  have A1 : Hid ((#[.int .i64 ck, .string cn, .int .i64 vk, .int .i64 vx, .int .u64 vb, .string vs, .slice la ll lc, .int .i64 dl] : Array Value).all (·.oneCell') = true) := by show _ = _; simp [Value.oneCell']
  have ho := M4.out.own
  have hr := M4.out.res
  have FIN : Hid _ := M4.out.fin
  have LT : Hid _ := M4.out.lt
  have GW : Hid _ := M4.out.gw
  go_wp2_with (first | refine wpList_load_row rfl 71 _ rfl (w.heap.size + 2) rfl 71 _ (0, 0) _ ho Try.underlying71 rfl infoR71 ?_ | refine wpList_store_row rfl 71 _ _ rfl (w.heap.size + 1) _ rfl rfl 71 _ hr infoR71 rfl A1.out ?_)
  refine bodyPost_ret (results_cell_row Try.results62 _ _ (w.heap.size + 1) 71 _ (0, 0) _ ?_ FIN.out.2.2.1 Try.underlying71 rfl infoR71) ?_ ?_
  · rfl
  · rfl
  rw [HP.out]
  exact ⟨_, rfl, ⟨vk, vx, vb, vs, la, ll, lc, rfl, (IV.out.kept (fun B h1 h2 => FIN.out.2.2.2 B (by omega))).lower (by omega)⟩, FIN.out.1, FIN.out.2.1⟩
end Go.Proofs.Ytjmonkhkcmcfiaa
namespace Go.Proofs.Ytjmonkhkcmcfiaa
open Go.ChangeShapes Go.WideShapes Go.ChangeAt Go.RowKit
theorem ownsRow_succ {w : World} {lo e size k : Nat} {v : Value} {cells : List Value} (h : w.ownsRow lo e size v (k + 1) cells) : ∃ g cap, v = .slice (some ⟨g, 0, none⟩) (k + 1) cap := by
  obtain ⟨_, ⟨_, h0⟩ | ⟨g, cap, _, rfl, _⟩⟩ := h
  · omega
  · exact ⟨g, cap, rfl⟩
theorem app2 {lo src k size bytes : Nat} {W : World} {u z : Value} {cells news : List Value} {t e : TypeId} {i0 : TypeInfo} (ht : Try.prog.underlying t = some (.slice e)) (hi : Try.prog.info? e = some i0) (hz0 : i0.zero = some z) (hz1 : i0.size = size) (hz2 : i0.bytes = bytes) (hzc : z.cells.size = size) (hsz : 0 < size) (hown : W.ownsRow lo e size u k cells) (hl : news.length = size) (hnews : ∀ j z, news[j]? = some z → W.cell? ((⟨src, 0, none⟩ : Addr).add j) = some z) (hs1 : ∀ z ∈ news, z.oneCell' = true) (hk : k ≤ 4611686018427387904) (hby : (k + 1) * bytes ≤ 140737488355328) (hB : lo ≤ W.heap.size) :
    ∃ u' w', (∀ ty, (Builtin.append_ #[t, t] ty #[u, .slice (some ⟨src, 0, none⟩) 1 1]).run Try.prog W = .ok u' w') ∧ w'.ownsRow lo e size u' (k + 1) (cells ++ news) ∧ Below lo W w' ∧ (∀ B, B < W.heap.size → u.ownBlock ≠ some B → w'.heap[B]? = W.heap[B]?) ∧ (u'.ownBlock = u.ownBlock ∨ u'.ownBlock = some W.heap.size) := by
  have hb1 := hby
  have key : ∀ ty, ∃ v' w', (Builtin.append_ #[t, t] ty #[u, .slice (some ⟨src, 0, none⟩) 1 1]).run Try.prog W = .ok v' w' ∧ w'.ownsRow lo e size v' (k + 1) (cells ++ news) ∧ W.grownBy w' u.ownBlock ∧ _ := fun ty =>
    run_append_own (P := Try.prog) (w := W) lo t ty e i0 z size bytes ht hi hz0 hz1 hz2 hzc hsz u k cells hown ⟨src, 0, none⟩ 1 1 news (by rw [hl, Nat.one_mul]) hnews hs1 (by unfold maxLen; omega) hby hB
  obtain ⟨u', w', hr, hown', hgrow, _⟩ := key t
  have hblk : u'.ownBlock = u.ownBlock ∨ u'.ownBlock = some W.heap.size := by
    have hown2 := hown
    obtain ⟨hcl, ⟨rfl, hn0⟩ | ⟨g, cap, cur, rfl, _, hg, hle, _, hcs, _⟩⟩ := hown2
    · have h2 := run_append_nil (P := Try.prog) W t t e i0 z ht hi hz0 ⟨src, 0, none⟩ 1 1 news (by rw [hz1, hl, Nat.one_mul]) hnews (by omega) (by omega) (by rw [hz2]; have := Nat.le_mul_of_pos_left bytes (show 0 < k + 1 by omega); omega)
      have e := hr.symm.trans h2
      cases e
      exact .inr rfl
    · by_cases hroom : k + 1 ≤ cap
      · have hmul : (k + 1) * size ≤ cap * size := Nat.mul_le_mul_right _ hroom
        have h2 := run_append_room (P := Try.prog) W t t e i0 ht hi g k cap cur hg ⟨src, 0, none⟩ 1 1 news (by rw [hz1, hl, Nat.one_mul]) hnews hs1 hroom (by rw [hz1, hcs, hl]; rw [Nat.add_mul, Nat.one_mul] at hmul; exact hmul)
        have e := hr.symm.trans h2
        cases e
        exact .inl rfl
      · have holds : ∀ j z, cells[j]? = some z → W.cell? ((⟨g, 0, none⟩ : Addr).add j) = some z := hown.cells (g := g) rfl
        have h2 := run_append_grow (P := Try.prog) W t t e i0 z ht hi hz0 ⟨g, 0, none⟩ k cap cells (by rw [hz1]; exact hcl) holds ⟨src, 0, none⟩ 1 1 news (by rw [hz1, hl, Nat.one_mul]) hnews (by omega) (by omega) (growslice_fits (by omega) (by rw [hz2]; exact hby))
        have e := hr.symm.trans h2
        cases e
        exact .inr rfl
  exact ⟨u', w', fun ty => hr, hown', (Below.refl _ W).grown hgrow hB (fun k hk2 => (World.ownsRow.lt hown k hk2).1), fun B hB2 hne => hgrow.block B hB2 (fun e => hne e.symm), hblk⟩
/-- What is wanted of a kind of struct: so many cells, each one cell; its value's facts may be exchanged. -/
structure ElK {α : Type} (S : Nat) (El : (Value → Tv → Prop) → Array Value → α → Prop) : Prop where
  size : ∀ {I r d}, El I r d → r.size = S
  one : ∀ {I r d}, El I r d → ∀ (j : Nat) z, r[j]? = some z → z.oneCell' = true
  map : ∀ {I I' : Value → Tv → Prop} {r d}, El I r d → (∀ v t, I v t → I' v t) → El I' r d
theorem ones_of {r : Array Value} (h : r.all (·.oneCell') = true) (j : Nat) (z : Value) (hz : r[j]? = some z) : z.oneCell' = true := by
  obtain ⟨hj, rfl⟩ := Array.getElem?_eq_some_iff.1 hz
  exact Array.all_eq_true.1 h j hj
theorem elA : ElK 6 ElA where
  size := by rintro I r d ⟨k, x, b, s, la, lm, lc, rfl, hi⟩; rfl
  one := by rintro I r d ⟨k, x, b, s, la, lm, lc, rfl, hi⟩; exact ones_of (by simp [Value.oneCell'])
  map := by rintro I I' r d ⟨k, x, b, s, la, lm, lc, rfl, hi⟩ hm; exact ⟨k, x, b, s, la, lm, lc, rfl, hm _ _ hi⟩
theorem elC : ElK 8 ElC where
  size := by rintro I r d ⟨k, x, b, s, la, lm, lc, rfl, hi⟩; rfl
  one := by rintro I r d ⟨k, x, b, s, la, lm, lc, rfl, hi⟩; exact ones_of (by simp [Value.oneCell'])
  map := by rintro I I' r d ⟨k, x, b, s, la, lm, lc, rfl, hi⟩ hm; exact ⟨k, x, b, s, la, lm, lc, rfl, hm _ _ hi⟩
/-- A list of structs in blocks from lo on. -/
def LsE {α : Type} (lo S : Nat) (El : (Value → Tv → Prop) → Array Value → α → Prop) (w : World) (n : Nat) (a : Option Addr) (ds : List α) : Prop :=
  ∀ (i : Nat) d, ds[i]? = some d → ∃ B o row, a = some ⟨B, o, none⟩ ∧ lo ≤ B ∧ (∀ (k : Nat) c, row[k]? = some c → w.cell? ⟨B, o + i * S + k, none⟩ = some c) ∧ 0 < row.size ∧ El (IsN lo w n) row d
theorem LsE.nil {α : Type} (lo S : Nat) (El : (Value → Tv → Prop) → Array Value → α → Prop) (w : World) (n : Nat) (a : Option Addr) : LsE lo S El w n a [] := fun i d h => by simp at h
theorem LsE.lower {α : Type} {lo lo' S : Nat} {El : (Value → Tv → Prop) → Array Value → α → Prop} (K : ElK S El) {w : World} {n : Nat} {a : Option Addr} {ds : List α} (h : LsE lo S El w n a ds) (hl : lo' ≤ lo) : LsE lo' S El w n a ds := fun i d hd => by
  obtain ⟨B, o, row, ha, hB, hc, hz, he⟩ := h i d hd
  exact ⟨B, o, row, ha, by omega, hc, hz, K.map he (fun v t hi => hi.lower hl)⟩
theorem LsE.kept {α : Type} {lo S : Nat} {El : (Value → Tv → Prop) → Array Value → α → Prop} (K : ElK S El) {w w' : World} {n : Nat} {a : Option Addr} {ds : List α} (hk : ∀ B, lo ≤ B → B < w.heap.size → w'.heap[B]? = w.heap[B]?) (h : LsE lo S El w n a ds) : LsE lo S El w' n a ds := fun i d hd => by
  obtain ⟨B, o, row, ha, hB, hc, hz, he⟩ := h i d hd
  have hb : w'.heap[B]? = w.heap[B]? := by
    have h0 := hc 0 row[0] (Array.getElem?_eq_getElem hz)
    exact hk B hB (World.block_lt_of_cell? w _ h0)
  exact ⟨B, o, row, ha, hB, fun k c hkc => (World.cell?_of_block hb).trans (hc k c hkc), hz, K.map he (fun v t hi => hi.kept hk)⟩
/-- What reading a list leaves. -/
def RlP {α : Type} (S : Nat) (El : (Value → Tv → Prop) → Array Value → α → Prop) (w : World) (g h : Nat) (r : List α × List UInt8 × Int) (x : Ending) (w' : World) : Prop :=
  ∃ a c, x = .returned (.slice a r.1.length c) ∧ LsE w.heap.size S El w' 5 a r.1 ∧ St w' g h r.2.1 r.2.2 ∧ KB g w w'
def rdXs {α : Type} (f : List UInt8 → Int → α × List UInt8 × Int) : Nat → List UInt8 → Int → List α × List UInt8 × Int
  | 0, l, e => ([], l, e)
  | n + 1, l, e =>
    if (f l e).2.2 = 0 then
      if (rdXs f n (f l e).2.1 0).2.2 = 0 then ((f l e).1 :: (rdXs f n (f l e).2.1 0).1, (rdXs f n (f l e).2.1 0).2.1, 0)
      else ([], (rdXs f n (f l e).2.1 0).2.1, (rdXs f n (f l e).2.1 0).2.2)
    else ([], (f l e).2.1, (f l e).2.2)
def rdLs {α : Type} (f : List UInt8 → Int → α × List UInt8 × Int) (most : Int) (l : List UInt8) (e : Int) : List α × List UInt8 × Int :=
  rdXs f (sNum most l e).1.toNat (sNum most l e).2.1 (sNum most l e).2.2
theorem rdXs_len {α : Type} {f : List UInt8 → Int → α × List UInt8 × Int} (hf : ∀ l e, (f l e).2.1.length ≤ l.length) : ∀ (n : Nat) (l : List UInt8) (e : Int), (rdXs f n l e).2.1.length ≤ l.length
  | 0, l, e => Nat.le_refl _
  | n + 1, l, e => by
    have h1 := hf l e
    have h2 := rdXs_len hf n (f l e).2.1 0
    unfold rdXs
    split
    · split
      · exact Nat.le_trans h2 h1
      · exact Nat.le_trans h2 h1
    · exact h1
theorem rdLs_len {α : Type} {f : List UInt8 → Int → α × List UInt8 × Int} (hf : ∀ l e, (f l e).2.1.length ≤ l.length) (most : Int) (l : List UInt8) (e : Int) : (rdLs f most l e).2.1.length ≤ l.length :=
  Nat.le_trans (rdXs_len hf _ _ _) (sNum_len most l e)
theorem rdPo_len (l : List UInt8) (e : Int) : (rdPo l e).2.1.length ≤ l.length := by
  unfold rdPo
  exact Nat.le_trans (sNum_len _ _ _) (Nat.le_trans (sBits_len _ _) (sNum_len _ _ _))
theorem rdAn_len (l : List UInt8) (e : Int) : (rdAn l e).2.1.length ≤ l.length := by
  unfold rdAn
  exact Nat.le_trans (rdR_len _ _) (sNum_len _ _ _)
theorem rdCo_len (l : List UInt8) (e : Int) : (rdCo l e).2.1.length ≤ l.length := by
  unfold rdCo
  exact Nat.le_trans (sNum_len _ _ _) (Nat.le_trans (rdR_len _ _) (Nat.le_trans (sText_len _ _ _) (sNum_len _ _ _)))
theorem rdXs_err {α : Type} {f : List UInt8 → Int → α × List UInt8 × Int} : ∀ (n : Nat) (l : List UInt8) (e : Int), (rdXs f n l e).2.2 ≠ 0 → (rdXs f n l e).1 = []
  | 0, l, e, _ => rfl
  | n + 1, l, e, h => by
    unfold rdXs at h ⊢
    split at h
    · split at h
      · exact absurd rfl h
      · rename_i h0 h1
        rw [if_pos h0, if_neg h1]
    · rename_i h0
      rw [if_neg h0]
/-- What was read so far, and what comes of the rest. -/
def jx {α : Type} (acc : List α) (q : List α × List UInt8 × Int) : List α × List UInt8 × Int := if q.2.2 = 0 then (acc ++ q.1, q.2.1, 0) else ([], q.2.1, q.2.2)
theorem jx_nil {α : Type} {f : List UInt8 → Int → α × List UInt8 × Int} (n : Nat) (l : List UInt8) (e : Int) : jx [] (rdXs f n l e) = rdXs f n l e := by
  unfold jx
  split
  · rename_i h
    rw [List.nil_append]
    exact Prod.ext rfl (Prod.ext rfl h.symm)
  · rename_i h
    exact Prod.ext (rdXs_err n l e h).symm rfl
theorem jx_more {α : Type} {f : List UInt8 → Int → α × List UInt8 × Int} (acc : List α) (n : Nat) (l : List UInt8) (h : (f l 0).2.2 = 0) : jx acc (rdXs f (n + 1) l 0) = jx (acc ++ [(f l 0).1]) (rdXs f n (f l 0).2.1 0) := by
  unfold jx
  conv => lhs; unfold rdXs
  rw [if_pos h]
  by_cases h1 : (rdXs f n (f l 0).2.1 0).2.2 = 0
  · simp [h1]
  · simp [h1]
theorem jx_end {α : Type} {f : List UInt8 → Int → α × List UInt8 × Int} (acc : List α) (n : Nat) (l : List UInt8) (h : (f l 0).2.2 ≠ 0) : jx acc (rdXs f (n + 1) l 0) = ([], (f l 0).2.1, (f l 0).2.2) := by
  unfold jx
  conv => lhs; unfold rdXs
  rw [if_neg h]
  simp [h]
/-- A list that grows, in blocks from lo on. -/
def GrE {α : Type} (lo n : Nat) (T : TypeId) (S : Nat) (El : (Value → Tv → Prop) → Array Value → α → Prop) (w : World) (u : Value) (xs : List α) : Prop :=
  ∃ cells, w.ownsRow lo T S u xs.length cells ∧ ∀ (i : Nat) x, xs[i]? = some x → ∃ cs : Array Value, (∀ (k : Nat) c, cs[k]? = some c → cells[i * S + k]? = some c) ∧ El (IsQ (fun B => lo ≤ B ∧ u.ownBlock ≠ some B) w n) cs x
theorem rowE_kept {lo k S : Nat} {T : TypeId} {w w' : World} {u : Value} {cells : List Value} (h : w.ownsRow lo T S u k cells) (hk : ∀ B, u.ownBlock = some B → w'.heap[B]? = w.heap[B]?) : w'.ownsRow lo T S u k cells := by
  obtain ⟨h1, h2 | ⟨g, cap, cur, rfl, hB, hg, r⟩⟩ := h
  · exact ⟨h1, .inl h2⟩
  · exact ⟨h1, .inr ⟨g, cap, cur, rfl, hB, by rw [hk g rfl]; exact hg, r⟩⟩
theorem GrE.nil {α : Type} (lo n : Nat) (T : TypeId) (S : Nat) (El : (Value → Tv → Prop) → Array Value → α → Prop) (w : World) : GrE lo n T S El w (.slice none 0 0) [] := ⟨[], World.ownsRow_nil _ _ _ _, fun i t h => by simp at h⟩
theorem GrE.keep {α : Type} {lo n : Nat} {T : TypeId} {S : Nat} {El : (Value → Tv → Prop) → Array Value → α → Prop} (K : ElK S El) {w w' : World} {u : Value} {xs : List α} (h : GrE lo n T S El w u xs) (hk : ∀ B, lo ≤ B → B < w.heap.size → w'.heap[B]? = w.heap[B]?) : GrE lo n T S El w' u xs := by
  obtain ⟨cells, ho, hc⟩ := h
  refine ⟨cells, rowE_kept ho (fun B hB => by have := World.ownsRow.lt ho B hB; exact hk B this.1 this.2), fun i x hx => ?_⟩
  obtain ⟨cs, h1, hq⟩ := hc i x hx
  exact ⟨cs, h1, K.map hq (fun _ _ h => h.keep (fun B hB hl => ⟨hk B hB.1 hl, hB⟩))⟩
theorem GrE.shape {α : Type} {lo n : Nat} {T : TypeId} {S : Nat} {El : (Value → Tv → Prop) → Array Value → α → Prop} {w : World} {u : Value} {ts : List α} (h : GrE lo n T S El w u ts) : ∃ a c, u = .slice a ts.length c := by
  obtain ⟨_, ⟨_, ⟨rfl, h2⟩ | ⟨g, cap, cur, rfl, _⟩⟩, _⟩ := h
  · exact ⟨none, 0, by rw [h2]⟩
  · exact ⟨_, _, rfl⟩
theorem GrE.lt {α : Type} {lo n : Nat} {T : TypeId} {S : Nat} {El : (Value → Tv → Prop) → Array Value → α → Prop} {w : World} {u : Value} {ts : List α} (h : GrE lo n T S El w u ts) {B : Nat} (hB : u.ownBlock = some B) : lo ≤ B ∧ B < w.heap.size := by
  obtain ⟨cells, ho, _⟩ := h
  exact World.ownsRow.lt ho B hB
theorem GrE.ls {α : Type} {lo n : Nat} {T : TypeId} {S : Nat} {El : (Value → Tv → Prop) → Array Value → α → Prop} (K : ElK S El) (hS : 0 < S) {w : World} {a : Option Addr} {k c : Nat} {ts : List α} (h : GrE lo n T S El w (.slice a k c) ts) : LsE lo S El w n a ts := by
  obtain ⟨cells, ho, hc⟩ := h
  intro i t ht
  have hlt : i < ts.length := (List.getElem?_eq_some_iff.1 ht).1
  obtain ⟨cs, h1, hi⟩ := hc i t ht
  have ho2 := ho
  obtain ⟨_, ⟨hu, h2⟩ | ⟨g, cap, cur, hu, hB, hg, _⟩⟩ := ho
  · omega
  · cases hu
    have hz := K.size hi
    refine ⟨g, 0, cs, rfl, hB, fun j v hj => ?_, by omega, K.map hi (fun _ _ h => h.isN (fun B hB => hB.1))⟩
    have hjS : j < S := by have := (Array.getElem?_eq_some_iff.1 hj).1; omega
    have hm : i * S + j < ts.length * S := by
      have := Nat.mul_le_mul_right S (show i + 1 ≤ ts.length by omega)
      rw [Nat.add_mul, Nat.one_mul] at this
      omega
    rw [Nat.zero_add, World.ownsRow.cellAt ho2 (i * S + j) hm, h1 j v hj]
theorem infoF71 : (Try.prog.info? 71).map (fun i => (i.zero, i.size, i.bytes)) = some (some (.agg #[.int .i64 0, .string ⟨#[]⟩, .int .i64 0, .int .i64 0, .int .u64 0, .string ⟨#[]⟩, .slice none 0 0, .int .i64 0]), 8, 96) := by kernel_rfl
theorem GrE.app_c {lo n src : Nat} {t : TypeId} {W : World} {u : Value} {xs : List (Int × ByteArray × Tv × Int)} {x : (Int × ByteArray × Tv × Int)} {r : Array Value} (h : GrE lo n 71 8 ElC W u xs) (hs : W.heap[src]? = some (.cells r t (0, 0))) (hQ : ElC (IsQ (fun B => lo ≤ B ∧ u.ownBlock ≠ some B) W n) r x) (hB : lo ≤ W.heap.size) (hk : xs.length ≤ 1000) :
    ∃ (a : Option Addr) (c : Nat) (w' : World), (∀ ty, (Builtin.append_ #[28, 28] ty #[u, .slice (some ⟨src, 0, none⟩) 1 1]).run Try.prog W = .ok (.slice a (xs.length + 1) c) w') ∧ GrE lo n 71 8 ElC w' (.slice a (xs.length + 1) c) (xs ++ [x]) ∧ Below lo W w' ∧ (∀ B, B < W.heap.size → u.ownBlock ≠ some B → w'.heap[B]? = W.heap[B]?) := by
  obtain ⟨cells, ho, hc⟩ := h
  obtain ⟨i0, hi0, hz0, hz1, hz2⟩ := info_parts infoF71
  have hsz := elC.size hQ
  obtain ⟨u', w2, hr, hown', hbl, hkeep, hblk⟩ := app2 (lo := lo) (src := src) (k := xs.length) (t := 28) (news := r.toList) Try.underlying28 hi0 hz0 hz1 hz2 rfl (by decide) ho (by rw [Array.length_toList]; exact hsz) (fun j z hj => by rw [add_plain, Nat.zero_add, cell_of_row W src j r t (0, 0) hs]; simpa using hj) (fun z hz => by
    obtain ⟨j, hj⟩ := List.mem_iff_getElem?.1 hz
    exact elC.one hQ j z (by simpa using hj)) (by omega) (by omega) hB
  obtain ⟨g', cap', rfl⟩ := ownsRow_succ hown'
  have hold : ∀ B, (lo ≤ B ∧ u.ownBlock ≠ some B) → B < W.heap.size → w2.heap[B]? = W.heap[B]? ∧ (lo ≤ B ∧ (Value.slice (some ⟨g', 0, none⟩) (xs.length + 1) cap').ownBlock ≠ some B) := fun B hB hB3 => by
    refine ⟨hkeep B hB3 hB.2, hB.1, ?_⟩
    rcases hblk with e | e
    · rw [e]; exact hB.2
    · rw [e]; intro e2; injection e2 with e2; omega
  have hcl : cells.length = xs.length * 8 := ho.1
  refine ⟨_, _, w2, hr, ⟨cells ++ r.toList, by rw [List.length_append]; exact hown', fun i z hz => ?_⟩, hbl, hkeep⟩
  by_cases hlt : i < xs.length
  · rw [List.getElem?_append_left hlt] at hz
    obtain ⟨cs, h1, hq⟩ := hc i z hz
    refine ⟨cs, fun k c hkc => ?_, elC.map hq (fun _ _ h => h.keep hold)⟩
    have hk13 : k < 8 := by have := (Array.getElem?_eq_some_iff.1 hkc).1; have := elC.size hq; omega
    rw [List.getElem?_append_left (by omega)]
    exact h1 k c hkc
  · have hi2 : i = xs.length := by
      have := (List.getElem?_eq_some_iff.1 hz).1
      simp at this
      omega
    subst hi2
    rw [List.getElem?_append_right (Nat.le_refl _)] at hz
    simp at hz
    subst hz
    refine ⟨r, fun k c hkc => ?_, elC.map hQ (fun _ _ h => h.keep hold)⟩
    rw [List.getElem?_append_right (by omega), hcl, Nat.add_sub_cancel_left]
    simpa using hkc
set_option maxHeartbeats 2000000 in
set_option maxRecDepth 100000 in
theorem rcmds_calls (w : World) (g h : Nat) (l : List UInt8) (e : Int) (r : St w g h l e) (hh : h < w.heap.size) (hl : l.length ≤ 281474976710656) :
    Calls Try.prog 61 #[.agg #[.pointer (some ⟨g, 0, none⟩)], .int .i64 12, .func (.func 62) #[.agg #[.pointer (some ⟨g, 0, none⟩)]] #[]] w (RlP 8 ElC w g h (rdLs rdCo 12 l e)) := by
  obtain ⟨A, hA⟩ : ∃ A, A = w.alloc (.cells #[.pointer (some ⟨g, 0, none⟩)] 79) := ⟨_, rfl⟩
  have rA : St A g h l e := by rw [hA]; exact r.alloc hh _
  have bA : Hid (Below w.heap.size w A) := by rw [hA]; exact bel1 _ _
  have cA : Hid (A.heap[w.heap.size]? = some (.cells #[.pointer (some ⟨g, 0, none⟩)] 79 (0, 0))) := by rw [hA]; exact heap_alloc_new w _
  have HA0 : Hid (A = w.alloc (.cells #[.pointer (some ⟨g, 0, none⟩)] 79)) := hA
  have hsA : A.heap.size = w.heap.size + 1 := by rw [hA]; simp
  have NC := num_st A g h l e 12 rA
  have n0 := sNum_nat 12 l e
  have nle : (sNum 12 l e).1 ≤ 12 := by
    unfold sNum
    split
    · split
      · split
        · simp
        · simp; omega
      · simp
    · simp
  have nz := sNum_zero 12 l e
  have nl := sNum_len 12 l e
  have hdef : rdLs rdCo 12 l e = rdXs rdCo (sNum 12 l e).1.toNat (sNum 12 l e).2.1 (sNum 12 l e).2.2 := rfl
  rw [hdef]
  generalize (sNum 12 l e).1 = k at NC n0 nle nz ⊢
  generalize (sNum 12 l e).2.1 = l1 at NC nl ⊢
  generalize (sNum 12 l e).2.2 = e1 at NC nz ⊢
  obtain ⟨N, rfl⟩ := Int.eq_ofNat_of_zero_le n0
  rw [Int.toNat_natCast]
  have HNC : Hid (Calls Try.prog 56 #[.pointer (some ⟨g, 0, none⟩), .int .i64 12] A (Rs A g h (.int .i64 (N : Int)) l1 e1)) := NC
  have HZ : Hid (N = 0 ∨ e1 = 0) := by
    show _ ∨ _
    by_cases h0 : e1 = 0
    · exact .inr h0
    · exact .inl (by have := nz h0; omega)
  have HN : Hid (N ≤ 12) := by show _ ≤ _; omega
  have HH : Hid (h < w.heap.size ∧ g < w.heap.size) := ⟨hh, st_lt r⟩
  have HSA : Hid (A.heap.size = w.heap.size + 1) := hsA
  have HL1 : Hid (l1.length ≤ 281474976710656) := Nat.le_trans nl hl
  have hNb : (N : Int) ≤ 12 := by have := HN.out; omega
  clear NC n0 nle nz nl hdef r rA hh hA hsA hl
  go_enter Try.func61, Try.ntmps61
  go_upto_region 2 with fail
  rw [← HA0.out]
  have rc0 : A.cell? ⟨w.heap.size, 0, none⟩ = some (.pointer (some ⟨g, 0, none⟩)) := row_cell cA.out rfl
  go_wp2_with fail
  clear rc0
  refine HNC.out.mono ?_
  rintro x w1 ⟨rfl, s1, k1⟩
  have S1 : Hid (St w1 g h l1 e1) := s1
  have K1 : Hid (KB g A w1) := k1
  clear s1 k1
  go_wp2_with fail
  go_loopw [7, 12] (fun u i wr => ∃ (j : Nat) (acc : List (Int × ByteArray × Tv × Int)) (lj : List UInt8) (ej : Int), j ≤ N ∧ i = .int .i64 (j : Int) ∧ Hid (acc.length = j) ∧ Hid (GrE A.heap.size 5 71 8 ElC wr u acc) ∧ Hid (St wr g h lj ej) ∧ Hid (KB g A wr) ∧ Hid (lj.length ≤ 281474976710656) ∧ Hid (N = 0 ∨ ej = 0) ∧ Hid (rdXs rdCo N l1 e1 = jx acc (rdXs rdCo (N - j) lj ej))) (fun _ i _ => N - (intOf i).toNat)
  case atStart => exact ⟨0, [], l1, e1, Nat.zero_le _, rfl, rfl, GrE.nil _ _ _ _ _ _, S1, K1, HL1, HZ, (by show _ = _; rw [Nat.sub_zero, jx_nil])⟩
  case round =>
    obtain ⟨j, acc, lj, ej, hj, rfl, HA, HV, HS, HK, HL, HE, HJ⟩ := hrel
    obtain ⟨ua, un, uc, hu⟩ : ∃ a n c, u7 = .slice a n c := by obtain ⟨a, c, h⟩ := HV.out.shape; exact ⟨_, _, _, h⟩
    by_cases hlt : j < N
    · have ej0 : ej = 0 := by rcases HE.out with h | h; omega; exact h
      subst ej0
      have hszw : A.heap.size ≤ wr.heap.size := HK.out.2.2.2.1
      have RC : Hid (Calls Try.prog 62 #[.agg #[.pointer (some ⟨g, 0, none⟩)]] wr (RrP ElC wr g h (rdCo lj 0))) := rcommand_calls wr g h lj 0 HS.out (by have := HH.out.1; have := HSA.out; omega) HL.out
      have hjl : (j : Int) < (N : Int) := by omega
      subst hu
      clear hszw
      go_wp2_with fail
      refine RC.out.mono ?_
      rintro x w2 ⟨row, rfl, hi2, hs2, hk2⟩
      have hz0 : A.heap.size ≤ wr.heap.size := HK.out.2.2.2.1
      have hz2 : wr.heap.size ≤ w2.heap.size := hk2.2.2.2.1
      have hA1 := HSA.out
      have hg1 := HH.out.2
      have hh1 := HH.out.1
      have hvs2 : GrE A.heap.size 5 71 8 ElC w2 (.slice ua un uc) acc := HV.out.keep elC (fun B h1 h2 => hk2.2.2.2.2 B h2 (by omega))
      have hVW : GrE A.heap.size 5 71 8 ElC (w2.alloc (.cells row 71)) (.slice ua un uc) acc := hvs2.keep elC (fun B _ h2 => (bel1 w2 _).block B h2)
      have hlto : ∀ B, (Value.slice ua un uc).ownBlock = some B → B < wr.heap.size := fun B hB => (HV.out.lt hB).2
      have hq : ElC (IsQ (fun B => A.heap.size ≤ B ∧ (Value.slice ua un uc).ownBlock ≠ some B) (w2.alloc (.cells row 71)) 5) row (rdCo lj 0).1 := elC.map hi2 (fun _ _ h => (h.isQ (fun B h1 _ => ⟨by omega, fun e => by have := hlto B e; omega⟩)).keep (fun B hB hl => ⟨(bel1 w2 _).block B hl, hB⟩))
      obtain ⟨a', c', w3, hr3, hv3, hb3, hk3⟩ := hVW.app_c (heap_alloc_new w2 (.cells row 71)) hq (by simp; omega) (by have := HA.out; have := HN.out; omega)
      have hgo : ∀ B, B < A.heap.size → w3.heap[B]? = w2.heap[B]? := fun B hB => (hb3.block B hB).trans ((bel1 w2 _).block B (by omega))
      have S3 : Hid (St w3 g h (rdCo lj 0).2.1 (rdCo lj 0).2.2) := hs2.keep (by have := hb3.size; simp at this; omega) (hgo g (by omega)) (hgo h (by omega))
      have K3 : Hid (KB g A w3) := by
        have k2 := HK.out.trans hk2
        have b3 := ((bel1 w2 (.cells row 71)).mono (show A.heap.size ≤ w2.heap.size by omega)).trans hb3
        exact ⟨b3.os.trans k2.1, b3.tape.trans k2.2.1, b3.output.trans k2.2.2.1, Nat.le_trans k2.2.2.2.1 b3.size, fun i hi hg => (hgo i hi).trans (k2.2.2.2.2 i hi hg)⟩
      have EC : Hid (Calls Try.prog 78 #[.pointer (some ⟨g, 0, none⟩)] w3 _) := err_st S3.out
      have V3 : Hid (GrE A.heap.size 5 71 8 ElC w3 (.slice a' (acc.length + 1) c') (acc ++ [(rdCo lj 0).1])) := hv3
      obtain ⟨m, hm⟩ : ∃ m, N - j = m + 1 := ⟨N - j - 1, by omega⟩
      have HJ2 : Hid (rdXs rdCo N l1 e1 = jx acc (rdXs rdCo (m + 1) lj 0)) := by show _ = _; rw [HJ.out, hm]
      have HM : Hid (N - (j + 1) = m) := by show _ = _; omega
      have HL3 : Hid ((rdCo lj 0).2.1.length ≤ 281474976710656) := Nat.le_trans (rdCo_len lj 0) HL.out
      obtain ⟨e2, he2⟩ : ∃ e2, e2 = (rdCo lj 0).2.2 := ⟨_, rfl⟩
      rw [← he2] at EC
      have HE2 : Hid (e2 = (rdCo lj 0).2.2) := he2
      have rc3 : w3.cell? ⟨w.heap.size, 0, none⟩ = some (.pointer (some ⟨g, 0, none⟩)) := row_cell ((K3.out.2.2.2.2 _ (by omega) (by omega)).trans cA.out) rfl
      obtain ⟨vk, vx, vb, vs, la, lm, lc, rfl, _⟩ := hi2
      clear hs2 hk2 hz0 hz2 hvs2 hVW hlto hq hv3 hb3 hk3 hgo hm he2 hA1 hg1 hh1
      go_wp2_with (at_builtin; refine Lib.wpList_append_run _ rfl _ _ 28 28 rfl _ _ rfl rfl _ _ (hr3 _) ?_)
      refine EC.out.mono ?_
      rintro x w4 ⟨rfl, hw4⟩
      have hw5 := hw4.symm
      subst hw5
      clear hw4 rc3
      by_cases h0 : e2 = 0
      · have d0 : (e2 != 0) = false := by simp [h0]
        have HF0 : Hid ((rdCo lj 0).2.2 = 0) := HE2.out.symm.trans h0
        clear h0
        go_wp2_with fail
        refine ⟨⟨j + 1, acc ++ [(rdCo lj 0).1], (rdCo lj 0).2.1, 0, hlt, by rw [Int.natCast_add]; rfl, (by show _ = _; rw [List.length_append, HA.out]; rfl), V3, (by have := S3.out; rwa [HF0.out] at this), K3, HL3, .inr rfl, (by show _ = _; rw [HJ2.out, HM.out, jx_more acc m lj HF0.out])⟩, ?_⟩
        simp only [intOf]
        omega
      · have d0 : (e2 != 0) = true := by simpa using h0
        have HF0 : Hid ((rdCo lj 0).2.2 ≠ 0) := fun hc => h0 (HE2.out.trans hc)
        clear h0
        go_wp2_with fail
        go_ret
        rw [HJ2.out, jx_end acc m lj HF0.out]
        exact ⟨none, 0, rfl, LsE.nil _ _ _ _ _ _, S3.out, (KB.of_below bA.out).trans K3.out⟩
    · obtain rfl : j = N := by omega
      obtain ⟨va, vc, hv⟩ := HV.out.shape
      subst hv
      have HJ2 : Hid (rdXs rdCo j l1 e1 = (if ej = 0 then (acc, lj, 0) else ([], lj, ej))) := by
        show _ = _
        rw [HJ.out, Nat.sub_self]
        unfold jx rdXs
        simp
      obtain ⟨L, hL⟩ : ∃ L, L = acc.length := ⟨_, rfl⟩
      rw [← hL]
      have HL : Hid (L = acc.length) := hL
      clear hL hu
      go_wp2_with fail
      go_ret
      rw [HJ2.out]
      by_cases h0 : ej = 0
      · subst h0
        rw [if_pos rfl, HL.out]
        exact ⟨va, vc, rfl, (HV.out.ls elC (by decide)).lower elC (by have := HSA.out; omega), HS.out, (KB.of_below bA.out).trans HK.out⟩
      · rw [if_neg h0]
        have hj0 : acc = [] := List.eq_nil_of_length_eq_zero (by rcases HE.out with h | h; have := HA.out; omega; exact absurd h h0)
        have hLe := HL.out
        subst hj0
        simp at hLe
        subst hLe
        exact ⟨va, vc, rfl, LsE.nil _ _ _ _ _ _, HS.out, (KB.of_below bA.out).trans HK.out⟩
theorem infoF73 : (Try.prog.info? 73).map (fun i => (i.zero, i.size, i.bytes)) = some (some (.agg #[.int .i64 0, .int .i64 0, .int .i64 0, .int .u64 0, .string ⟨#[]⟩, .slice none 0 0]), 6, 72) := by kernel_rfl
theorem GrE.app_a {lo n src : Nat} {t : TypeId} {W : World} {u : Value} {xs : List (Int × Tv)} {x : (Int × Tv)} {r : Array Value} (h : GrE lo n 73 6 ElA W u xs) (hs : W.heap[src]? = some (.cells r t (0, 0))) (hQ : ElA (IsQ (fun B => lo ≤ B ∧ u.ownBlock ≠ some B) W n) r x) (hB : lo ≤ W.heap.size) (hk : xs.length ≤ 1000) :
    ∃ (a : Option Addr) (c : Nat) (w' : World), (∀ ty, (Builtin.append_ #[29, 29] ty #[u, .slice (some ⟨src, 0, none⟩) 1 1]).run Try.prog W = .ok (.slice a (xs.length + 1) c) w') ∧ GrE lo n 73 6 ElA w' (.slice a (xs.length + 1) c) (xs ++ [x]) ∧ Below lo W w' ∧ (∀ B, B < W.heap.size → u.ownBlock ≠ some B → w'.heap[B]? = W.heap[B]?) := by
  obtain ⟨cells, ho, hc⟩ := h
  obtain ⟨i0, hi0, hz0, hz1, hz2⟩ := info_parts infoF73
  have hsz := elA.size hQ
  obtain ⟨u', w2, hr, hown', hbl, hkeep, hblk⟩ := app2 (lo := lo) (src := src) (k := xs.length) (t := 29) (news := r.toList) Try.underlying29 hi0 hz0 hz1 hz2 rfl (by decide) ho (by rw [Array.length_toList]; exact hsz) (fun j z hj => by rw [add_plain, Nat.zero_add, cell_of_row W src j r t (0, 0) hs]; simpa using hj) (fun z hz => by
    obtain ⟨j, hj⟩ := List.mem_iff_getElem?.1 hz
    exact elA.one hQ j z (by simpa using hj)) (by omega) (by omega) hB
  obtain ⟨g', cap', rfl⟩ := ownsRow_succ hown'
  have hold : ∀ B, (lo ≤ B ∧ u.ownBlock ≠ some B) → B < W.heap.size → w2.heap[B]? = W.heap[B]? ∧ (lo ≤ B ∧ (Value.slice (some ⟨g', 0, none⟩) (xs.length + 1) cap').ownBlock ≠ some B) := fun B hB hB3 => by
    refine ⟨hkeep B hB3 hB.2, hB.1, ?_⟩
    rcases hblk with e | e
    · rw [e]; exact hB.2
    · rw [e]; intro e2; injection e2 with e2; omega
  have hcl : cells.length = xs.length * 6 := ho.1
  refine ⟨_, _, w2, hr, ⟨cells ++ r.toList, by rw [List.length_append]; exact hown', fun i z hz => ?_⟩, hbl, hkeep⟩
  by_cases hlt : i < xs.length
  · rw [List.getElem?_append_left hlt] at hz
    obtain ⟨cs, h1, hq⟩ := hc i z hz
    refine ⟨cs, fun k c hkc => ?_, elA.map hq (fun _ _ h => h.keep hold)⟩
    have hk13 : k < 6 := by have := (Array.getElem?_eq_some_iff.1 hkc).1; have := elA.size hq; omega
    rw [List.getElem?_append_left (by omega)]
    exact h1 k c hkc
  · have hi2 : i = xs.length := by
      have := (List.getElem?_eq_some_iff.1 hz).1
      simp at this
      omega
    subst hi2
    rw [List.getElem?_append_right (Nat.le_refl _)] at hz
    simp at hz
    subst hz
    refine ⟨r, fun k c hkc => ?_, elA.map hQ (fun _ _ h => h.keep hold)⟩
    rw [List.getElem?_append_right (by omega), hcl, Nat.add_sub_cancel_left]
    simpa using hkc
set_option maxHeartbeats 2000000 in
set_option maxRecDepth 100000 in
theorem ransw_calls (w : World) (g h : Nat) (l : List UInt8) (e : Int) (r : St w g h l e) (hh : h < w.heap.size) (hl : l.length ≤ 281474976710656) :
    Calls Try.prog 63 #[.agg #[.pointer (some ⟨g, 0, none⟩)], .int .i64 8, .func (.func 64) #[.agg #[.pointer (some ⟨g, 0, none⟩)]] #[]] w (RlP 6 ElA w g h (rdLs rdAn 8 l e)) := by
  obtain ⟨A, hA⟩ : ∃ A, A = w.alloc (.cells #[.pointer (some ⟨g, 0, none⟩)] 79) := ⟨_, rfl⟩
  have rA : St A g h l e := by rw [hA]; exact r.alloc hh _
  have bA : Hid (Below w.heap.size w A) := by rw [hA]; exact bel1 _ _
  have cA : Hid (A.heap[w.heap.size]? = some (.cells #[.pointer (some ⟨g, 0, none⟩)] 79 (0, 0))) := by rw [hA]; exact heap_alloc_new w _
  have HA0 : Hid (A = w.alloc (.cells #[.pointer (some ⟨g, 0, none⟩)] 79)) := hA
  have hsA : A.heap.size = w.heap.size + 1 := by rw [hA]; simp
  have NC := num_st A g h l e 8 rA
  have n0 := sNum_nat 8 l e
  have nle : (sNum 8 l e).1 ≤ 8 := by
    unfold sNum
    split
    · split
      · split
        · simp
        · simp; omega
      · simp
    · simp
  have nz := sNum_zero 8 l e
  have nl := sNum_len 8 l e
  have hdef : rdLs rdAn 8 l e = rdXs rdAn (sNum 8 l e).1.toNat (sNum 8 l e).2.1 (sNum 8 l e).2.2 := rfl
  rw [hdef]
  generalize (sNum 8 l e).1 = k at NC n0 nle nz ⊢
  generalize (sNum 8 l e).2.1 = l1 at NC nl ⊢
  generalize (sNum 8 l e).2.2 = e1 at NC nz ⊢
  obtain ⟨N, rfl⟩ := Int.eq_ofNat_of_zero_le n0
  rw [Int.toNat_natCast]
  have HNC : Hid (Calls Try.prog 56 #[.pointer (some ⟨g, 0, none⟩), .int .i64 8] A (Rs A g h (.int .i64 (N : Int)) l1 e1)) := NC
  have HZ : Hid (N = 0 ∨ e1 = 0) := by
    show _ ∨ _
    by_cases h0 : e1 = 0
    · exact .inr h0
    · exact .inl (by have := nz h0; omega)
  have HN : Hid (N ≤ 8) := by show _ ≤ _; omega
  have HH : Hid (h < w.heap.size ∧ g < w.heap.size) := ⟨hh, st_lt r⟩
  have HSA : Hid (A.heap.size = w.heap.size + 1) := hsA
  have HL1 : Hid (l1.length ≤ 281474976710656) := Nat.le_trans nl hl
  have hNb : (N : Int) ≤ 8 := by have := HN.out; omega
  clear NC n0 nle nz nl hdef r rA hh hA hsA hl
  go_enter Try.func63, Try.ntmps63
  go_upto_region 2 with fail
  rw [← HA0.out]
  have rc0 : A.cell? ⟨w.heap.size, 0, none⟩ = some (.pointer (some ⟨g, 0, none⟩)) := row_cell cA.out rfl
  go_wp2_with fail
  clear rc0
  refine HNC.out.mono ?_
  rintro x w1 ⟨rfl, s1, k1⟩
  have S1 : Hid (St w1 g h l1 e1) := s1
  have K1 : Hid (KB g A w1) := k1
  clear s1 k1
  go_wp2_with fail
  go_loopw [7, 12] (fun u i wr => ∃ (j : Nat) (acc : List (Int × Tv)) (lj : List UInt8) (ej : Int), j ≤ N ∧ i = .int .i64 (j : Int) ∧ Hid (acc.length = j) ∧ Hid (GrE A.heap.size 5 73 6 ElA wr u acc) ∧ Hid (St wr g h lj ej) ∧ Hid (KB g A wr) ∧ Hid (lj.length ≤ 281474976710656) ∧ Hid (N = 0 ∨ ej = 0) ∧ Hid (rdXs rdAn N l1 e1 = jx acc (rdXs rdAn (N - j) lj ej))) (fun _ i _ => N - (intOf i).toNat)
  case atStart => exact ⟨0, [], l1, e1, Nat.zero_le _, rfl, rfl, GrE.nil _ _ _ _ _ _, S1, K1, HL1, HZ, (by show _ = _; rw [Nat.sub_zero, jx_nil])⟩
  case round =>
    obtain ⟨j, acc, lj, ej, hj, rfl, HA, HV, HS, HK, HL, HE, HJ⟩ := hrel
    obtain ⟨ua, un, uc, hu⟩ : ∃ a n c, u7 = .slice a n c := by obtain ⟨a, c, h⟩ := HV.out.shape; exact ⟨_, _, _, h⟩
    by_cases hlt : j < N
    · have ej0 : ej = 0 := by rcases HE.out with h | h; omega; exact h
      subst ej0
      have hszw : A.heap.size ≤ wr.heap.size := HK.out.2.2.2.1
      have RC : Hid (Calls Try.prog 64 #[.agg #[.pointer (some ⟨g, 0, none⟩)]] wr (RrP ElA wr g h (rdAn lj 0))) := ranswer_calls wr g h lj 0 HS.out (by have := HH.out.1; have := HSA.out; omega) HL.out
      have hjl : (j : Int) < (N : Int) := by omega
      subst hu
      clear hszw
      go_wp2_with fail
      refine RC.out.mono ?_
      rintro x w2 ⟨row, rfl, hi2, hs2, hk2⟩
      have hz0 : A.heap.size ≤ wr.heap.size := HK.out.2.2.2.1
      have hz2 : wr.heap.size ≤ w2.heap.size := hk2.2.2.2.1
      have hA1 := HSA.out
      have hg1 := HH.out.2
      have hh1 := HH.out.1
      have hvs2 : GrE A.heap.size 5 73 6 ElA w2 (.slice ua un uc) acc := HV.out.keep elA (fun B h1 h2 => hk2.2.2.2.2 B h2 (by omega))
      have hVW : GrE A.heap.size 5 73 6 ElA (w2.alloc (.cells row 73)) (.slice ua un uc) acc := hvs2.keep elA (fun B _ h2 => (bel1 w2 _).block B h2)
      have hlto : ∀ B, (Value.slice ua un uc).ownBlock = some B → B < wr.heap.size := fun B hB => (HV.out.lt hB).2
      have hq : ElA (IsQ (fun B => A.heap.size ≤ B ∧ (Value.slice ua un uc).ownBlock ≠ some B) (w2.alloc (.cells row 73)) 5) row (rdAn lj 0).1 := elA.map hi2 (fun _ _ h => (h.isQ (fun B h1 _ => ⟨by omega, fun e => by have := hlto B e; omega⟩)).keep (fun B hB hl => ⟨(bel1 w2 _).block B hl, hB⟩))
      obtain ⟨a', c', w3, hr3, hv3, hb3, hk3⟩ := hVW.app_a (heap_alloc_new w2 (.cells row 73)) hq (by simp; omega) (by have := HA.out; have := HN.out; omega)
      have hgo : ∀ B, B < A.heap.size → w3.heap[B]? = w2.heap[B]? := fun B hB => (hb3.block B hB).trans ((bel1 w2 _).block B (by omega))
      have S3 : Hid (St w3 g h (rdAn lj 0).2.1 (rdAn lj 0).2.2) := hs2.keep (by have := hb3.size; simp at this; omega) (hgo g (by omega)) (hgo h (by omega))
      have K3 : Hid (KB g A w3) := by
        have k2 := HK.out.trans hk2
        have b3 := ((bel1 w2 (.cells row 73)).mono (show A.heap.size ≤ w2.heap.size by omega)).trans hb3
        exact ⟨b3.os.trans k2.1, b3.tape.trans k2.2.1, b3.output.trans k2.2.2.1, Nat.le_trans k2.2.2.2.1 b3.size, fun i hi hg => (hgo i hi).trans (k2.2.2.2.2 i hi hg)⟩
      have EC : Hid (Calls Try.prog 78 #[.pointer (some ⟨g, 0, none⟩)] w3 _) := err_st S3.out
      have V3 : Hid (GrE A.heap.size 5 73 6 ElA w3 (.slice a' (acc.length + 1) c') (acc ++ [(rdAn lj 0).1])) := hv3
      obtain ⟨m, hm⟩ : ∃ m, N - j = m + 1 := ⟨N - j - 1, by omega⟩
      have HJ2 : Hid (rdXs rdAn N l1 e1 = jx acc (rdXs rdAn (m + 1) lj 0)) := by show _ = _; rw [HJ.out, hm]
      have HM : Hid (N - (j + 1) = m) := by show _ = _; omega
      have HL3 : Hid ((rdAn lj 0).2.1.length ≤ 281474976710656) := Nat.le_trans (rdAn_len lj 0) HL.out
      obtain ⟨e2, he2⟩ : ∃ e2, e2 = (rdAn lj 0).2.2 := ⟨_, rfl⟩
      rw [← he2] at EC
      have HE2 : Hid (e2 = (rdAn lj 0).2.2) := he2
      have rc3 : w3.cell? ⟨w.heap.size, 0, none⟩ = some (.pointer (some ⟨g, 0, none⟩)) := row_cell ((K3.out.2.2.2.2 _ (by omega) (by omega)).trans cA.out) rfl
      obtain ⟨vk, vx, vb, vs, la, lm, lc, rfl, _⟩ := hi2
      clear hs2 hk2 hz0 hz2 hvs2 hVW hlto hq hv3 hb3 hk3 hgo hm he2 hA1 hg1 hh1
      go_wp2_with (at_builtin; refine Lib.wpList_append_run _ rfl _ _ 29 29 rfl _ _ rfl rfl _ _ (hr3 _) ?_)
      refine EC.out.mono ?_
      rintro x w4 ⟨rfl, hw4⟩
      have hw5 := hw4.symm
      subst hw5
      clear hw4 rc3
      by_cases h0 : e2 = 0
      · have d0 : (e2 != 0) = false := by simp [h0]
        have HF0 : Hid ((rdAn lj 0).2.2 = 0) := HE2.out.symm.trans h0
        clear h0
        go_wp2_with fail
        refine ⟨⟨j + 1, acc ++ [(rdAn lj 0).1], (rdAn lj 0).2.1, 0, hlt, by rw [Int.natCast_add]; rfl, (by show _ = _; rw [List.length_append, HA.out]; rfl), V3, (by have := S3.out; rwa [HF0.out] at this), K3, HL3, .inr rfl, (by show _ = _; rw [HJ2.out, HM.out, jx_more acc m lj HF0.out])⟩, ?_⟩
        simp only [intOf]
        omega
      · have d0 : (e2 != 0) = true := by simpa using h0
        have HF0 : Hid ((rdAn lj 0).2.2 ≠ 0) := fun hc => h0 (HE2.out.trans hc)
        clear h0
        go_wp2_with fail
        go_ret
        rw [HJ2.out, jx_end acc m lj HF0.out]
        exact ⟨none, 0, rfl, LsE.nil _ _ _ _ _ _, S3.out, (KB.of_below bA.out).trans K3.out⟩
    · obtain rfl : j = N := by omega
      obtain ⟨va, vc, hv⟩ := HV.out.shape
      subst hv
      have HJ2 : Hid (rdXs rdAn j l1 e1 = (if ej = 0 then (acc, lj, 0) else ([], lj, ej))) := by
        show _ = _
        rw [HJ.out, Nat.sub_self]
        unfold jx rdXs
        simp
      obtain ⟨L, hL⟩ : ∃ L, L = acc.length := ⟨_, rfl⟩
      rw [← hL]
      have HL : Hid (L = acc.length) := hL
      clear hL hu
      go_wp2_with fail
      go_ret
      rw [HJ2.out]
      by_cases h0 : ej = 0
      · subst h0
        rw [if_pos rfl, HL.out]
        exact ⟨va, vc, rfl, (HV.out.ls elA (by decide)).lower elA (by have := HSA.out; omega), HS.out, (KB.of_below bA.out).trans HK.out⟩
      · rw [if_neg h0]
        have hj0 : acc = [] := List.eq_nil_of_length_eq_zero (by rcases HE.out with h | h; have := HA.out; omega; exact absurd h h0)
        have hLe := HL.out
        subst hj0
        simp at hLe
        subst hLe
        exact ⟨va, vc, rfl, LsE.nil _ _ _ _ _ _, HS.out, (KB.of_below bA.out).trans HK.out⟩
end Go.Proofs.Ytjmonkhkcmcfiaa
