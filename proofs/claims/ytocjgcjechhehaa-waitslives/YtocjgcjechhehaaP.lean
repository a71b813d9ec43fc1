/- The contracts of Hand, Answer, Refuse. -/
import Derived.Test.YtocjgcjechhehaaO
namespace Go.Proofs.Ytocjgcjechhehaa
open Go.ChangeAt Go.ChangeShapes Go.Deep Go.RowKit Go.WideShapes
theorem RetW.from {n : Nat} {w W : World} {xs : List Wt} {e : Ending} {W' : World} (hb : Below w.heap.size w W) (h : RetW n W xs e W') : RetW n w xs e W' := by
  obtain ⟨a, c, h1, h2, h3, h4, h5⟩ := h
  exact ⟨a, c, h1, h2, h3, h4, bel2 hb h5⟩
theorem cell_lt {w : World} {g o : Nat} {v : Value} (h : w.cell? ⟨g, o, none⟩ = some v) : g < w.heap.size := World.block_lt_of_cell? w _ h
theorem LsR.old {α : Type} {k : Nat} {Rp : Array Value → α → Prop} {w : World} {la : Option Addr} {ds : List α} (hk : 0 < k) (h : LsR k Rp w la ds) (hne : ds ≠ []) (B o : Nat) (he : la = some ⟨B, o, none⟩) : B < w.heap.size := by
  cases ds with
  | nil => exact absurd rfl hne
  | cons d ds =>
    obtain ⟨B2, o2, r, h1, h2, h3, _⟩ := h 0 d rfl
    rw [he] at h1
    cases h1
    exact cell_lt (h3 0 _ (Array.getElem?_eq_getElem (by omega)))
theorem IsAn.map {R R' : Value → Tv → Prop} {r : Array Value} {d : An} (hR : ∀ v t, R v t → R' v t) (h : IsAn R r d) : IsAn R' r d := { h with v := h.v.map fun v => hR v _ }
theorem IsA.map {R R' : Value → Tv → Prop} {r : Array Value} {d : Ak} (hR : ∀ v t, R v t → R' v t) (h : IsA R r d) : IsA R' r d := { h with v := h.v.map fun v => hR v _ }
/-- Answers that are read. -/
def LsAn (w : World) (n : Nat) (a : Option Addr) (az : List An) : Prop := LsR 6 (IsAn (Is w n)) w a az
theorem LsAn.below {w w' : World} {n : Nat} {a : Option Addr} {az : List An} (h : LsAn w n a az) (hb : Below w.heap.size w w') : LsAn w' n a az := (LsR.below h hb).map fun _ _ h => h.map fun _ _ h => h.below hb
/-- Asks that are read. -/
def LsA (w : World) (n : Nat) (a : Option Addr) (az : List Ak) : Prop := LsR 7 (IsA (Is w n)) w a az
theorem LsA.below {w w' : World} {n : Nat} {a : Option Addr} {az : List Ak} (h : LsA w n a az) (hb : Below w.heap.size w w') : LsA w' n a az := (LsR.below h hb).map fun _ _ h => h.map fun _ _ h => h.below hb
theorem hand41 (n : Nat) (a : Option Addr) (c N : Nat) (ws : List Wt) (hN : ws.length = N) (hl : N ≤ 1000) (flow : ByteArray) (run s upto : Int) (g0 g1 g2 g3 : Nat) (W : World) (hR : LsW W n a ws) (hs : ∀ x ∈ ws, SmX n x)
    (h0 : W.cell? ⟨g0, 0, none⟩ = some (.int .i64 s)) (h1 : W.cell? ⟨g1, 0, none⟩ = some (.string flow)) (h2 : W.cell? ⟨g2, 0, none⟩ = some (.int .i64 run)) (h3 : W.cell? ⟨g3, 0, none⟩ = some (.int .i64 upto)) :
    Calls Try.prog 41 #[.slice a N c, .func (.func 48) #[] #[.pointer (some ⟨g0, 0, none⟩), .pointer (some ⟨g1, 0, none⟩), .pointer (some ⟨g2, 0, none⟩), .pointer (some ⟨g3, 0, none⟩)]] W (RetW n W (ws.map (hnd s flow run upto))) :=
  turned48 n a c N ws (hnd s flow run upto) g0 g1 g2 g3 hN hl W hR hs fun W2 b cs x hW hb hrow hi =>
    hnd_calls n b cs x s flow run upto g0 g1 g2 g3 W2 hrow hi (cellW h0 hW) (cellW h1 hW) (cellW h2 hW) (cellW h3 hW) (by have := cell_lt h0; omega) (by have := cell_lt h3; omega)
theorem answer41 (n : Nat) (a : Option Addr) (c N : Nat) (ws : List Wt) (hN : ws.length = N) (hl : N ≤ 1000) (s : Int) (la : Option Addr) (lc M : Nat) (az : List An) (hM : az.length = M) (hm : M ≤ 1000) (g0 g1 : Nat) (W : World) (hR : LsW W n a ws) (hs : ∀ x ∈ ws, SmX n x)
    (hA : LsAn W n la az) (hz : ∀ d ∈ az, SmallW n d.v) (h0 : W.cell? ⟨g0, 0, none⟩ = some (.int .i64 s)) (h1 : W.cell? ⟨g1, 0, none⟩ = some (.slice la M lc)) :
    Calls Try.prog 41 #[.slice a N c, .func (.func 42) #[] #[.pointer (some ⟨g0, 0, none⟩), .pointer (some ⟨g1, 0, none⟩)]] W (RetW n W (ws.map (ans s az))) :=
  turned42 n a c N ws (ans s az) g0 g1 hN hl W hR hs fun W2 b cs x hW hb hrow hi =>
    ans_calls n b cs x s la lc M az hM hm g0 g1 W2 hrow hi (cellW h0 hW) (cellW h1 hW) (hA.below hW) hz (fun hne B o he => by have := LsR.old (by decide) hA hne B o he; omega) (by have := cell_lt h1; omega)
theorem refuse41 (n : Nat) (a : Option Addr) (c N : Nat) (ws : List Wt) (hN : ws.length = N) (hl : N ≤ 1000) (flow : ByteArray) (run : Int) (la : Option Addr) (lc M : Nat) (az : List Ak) (hM : az.length = M) (hm : M ≤ 1000) (g0 g1 g2 : Nat) (W : World) (hR : LsW W n a ws) (hs : ∀ x ∈ ws, SmX n x)
    (hA : LsA W n la az) (hz : ∀ d ∈ az, SmallW n d.v) (h0 : W.cell? ⟨g0, 0, none⟩ = some (.string flow)) (h1 : W.cell? ⟨g1, 0, none⟩ = some (.int .i64 run)) (h2 : W.cell? ⟨g2, 0, none⟩ = some (.slice la M lc)) :
    Calls Try.prog 41 #[.slice a N c, .func (.func 49) #[] #[.pointer (some ⟨g0, 0, none⟩), .pointer (some ⟨g1, 0, none⟩), .pointer (some ⟨g2, 0, none⟩)]] W (RetW n W (ws.map (refu flow run az))) :=
  turned49 n a c N ws (refu flow run az) g0 g1 g2 hN hl W hR hs fun W2 b cs x hW hb hrow hi =>
    refu_calls n b cs x flow run la lc M az hM hm g0 g1 g2 W2 hrow hi (cellW h0 hW) (cellW h1 hW) (cellW h2 hW) (hA.below hW) hz (fun hne B o he => by have := LsR.old (by decide) hA hne B o he; omega) (by have := cell_lt h2; omega)
set_option maxHeartbeats 1000000 in
theorem hand_calls (n : Nat) (a : Option Addr) (c N : Nat) (ws : List Wt) (hN : ws.length = N) (hl : N ≤ 1000) (flow : ByteArray) (run s upto : Int) (w : World) (hR : LsW w n a ws) (hs : ∀ x ∈ ws, SmX n x)  :
    Calls Try.prog 23 #[.slice a N c, .string flow, .int .i64 run, .int .i64 s, .int .i64 upto] w (RetW n w (ws.map (hnd s flow run upto))) := by
  have HB : Hid (Below w.heap.size w ((((w.alloc (.cells #[.string flow] 9)).alloc (.cells #[.int .i64 run] 3)).alloc (.cells #[.int .i64 s] 3)).alloc (.cells #[.int .i64 upto] 3))) := bel2 (bel2 (bel2 (bel1 w _) (bel1 _ _)) (bel1 _ _)) (bel1 _ _)
  have KT : Hid (∀ W, Below w.heap.size w W → _) := fun W hW g0 g1 g2 g3 h0 h1 h2 h3 => (hand41 n a c N ws hN hl flow run s upto g0 g1 g2 g3 W (hR.below hW) hs h0 h1 h2 h3 : Calls Try.prog 41 #[.slice a N c, .func (.func 48) #[] #[.pointer (some ⟨g0, 0, none⟩), .pointer (some ⟨g1, 0, none⟩), .pointer (some ⟨g2, 0, none⟩), .pointer (some ⟨g3, 0, none⟩)]] W (RetW n W (ws.map (hnd s flow run upto))))
  have HF : Hid (∀ W, Below w.heap.size w W → ∀ e W', RetW n W (ws.map (hnd s flow run upto)) e W' → RetW n w (ws.map (hnd s flow run upto)) e W') := fun W hW e W' h => h.from hW
  have HSh : Hid (∀ W e W', RetW n W (ws.map (hnd s flow run upto)) e W' → ∃ v, e = .returned v) := fun W e W' h => by obtain ⟨a, c, h1, _⟩ := h; exact ⟨_, h1⟩
  clear hR hs hN hl 
  generalize ws.map (hnd s flow run upto) = ys at KT HF HSh ⊢
  go_enter Try.func23, Try.ntmps23
  go_wp2_with fail
  refine (KT.out _ HB.out _ _ _ _ ?_ ?_ ?_ ?_).mono ?_
  · go_simp
  · go_simp
  · go_simp
  · go_simp
  intro e W' h
  have h' := HF.out _ HB.out _ _ h
  obtain ⟨v, rfl⟩ := HSh.out _ _ _ h
  clear h
  have H' : Hid (RetW n w ys (.returned v) W') := h'
  clear h'
  go_wp2_with fail
  go_ret
  exact H'.out
set_option maxHeartbeats 1000000 in
theorem answer_calls (n : Nat) (a : Option Addr) (c N : Nat) (ws : List Wt) (hN : ws.length = N) (hl : N ≤ 1000) (s : Int) (la : Option Addr) (lc M : Nat) (az : List An) (hM : az.length = M) (hm : M ≤ 1000) (w : World) (hR : LsW w n a ws) (hs : ∀ x ∈ ws, SmX n x) (hA : LsAn w n la az) (hz : ∀ d ∈ az, SmallW n d.v) :
    Calls Try.prog 19 #[.slice a N c, .int .i64 s, .slice la M lc] w (RetW n w (ws.map (ans s az))) := by
  have HB : Hid (Below w.heap.size w ((w.alloc (.cells #[.int .i64 s] 3)).alloc (.cells #[.slice la M lc] 30))) := bel2 (bel1 w _) (bel1 _ _)
  have KT : Hid (∀ W, Below w.heap.size w W → _) := fun W hW g0 g1 h0 h1 => (answer41 n a c N ws hN hl s la lc M az hM hm g0 g1 W (hR.below hW) hs (hA.below hW) hz h0 h1 : Calls Try.prog 41 #[.slice a N c, .func (.func 42) #[] #[.pointer (some ⟨g0, 0, none⟩), .pointer (some ⟨g1, 0, none⟩)]] W (RetW n W (ws.map (ans s az))))
  have HF : Hid (∀ W, Below w.heap.size w W → ∀ e W', RetW n W (ws.map (ans s az)) e W' → RetW n w (ws.map (ans s az)) e W') := fun W hW e W' h => h.from hW
  have HSh : Hid (∀ W e W', RetW n W (ws.map (ans s az)) e W' → ∃ v, e = .returned v) := fun W e W' h => by obtain ⟨a, c, h1, _⟩ := h; exact ⟨_, h1⟩
  clear hR hs hN hl hA hz hM hm
  generalize ws.map (ans s az) = ys at KT HF HSh ⊢
  go_enter Try.func19, Try.ntmps19
  go_wp2_with fail
  refine (KT.out _ HB.out _ _ ?_ ?_).mono ?_
  · go_simp
  · go_simp
  intro e W' h
  have h' := HF.out _ HB.out _ _ h
  obtain ⟨v, rfl⟩ := HSh.out _ _ _ h
  clear h
  have H' : Hid (RetW n w ys (.returned v) W') := h'
  clear h'
  go_wp2_with fail
  go_ret
  exact H'.out
set_option maxHeartbeats 1000000 in
theorem refuse_calls (n : Nat) (a : Option Addr) (c N : Nat) (ws : List Wt) (hN : ws.length = N) (hl : N ≤ 1000) (flow : ByteArray) (run : Int) (la : Option Addr) (lc M : Nat) (az : List Ak) (hM : az.length = M) (hm : M ≤ 1000) (w : World) (hR : LsW w n a ws) (hs : ∀ x ∈ ws, SmX n x) (hA : LsA w n la az) (hz : ∀ d ∈ az, SmallW n d.v) :
    Calls Try.prog 24 #[.slice a N c, .string flow, .int .i64 run, .slice la M lc] w (RetW n w (ws.map (refu flow run az))) := by
  have HB : Hid (Below w.heap.size w (((w.alloc (.cells #[.string flow] 9)).alloc (.cells #[.int .i64 run] 3)).alloc (.cells #[.slice la M lc] 31))) := bel2 (bel2 (bel1 w _) (bel1 _ _)) (bel1 _ _)
  have KT : Hid (∀ W, Below w.heap.size w W → _) := fun W hW g0 g1 g2 h0 h1 h2 => (refuse41 n a c N ws hN hl flow run la lc M az hM hm g0 g1 g2 W (hR.below hW) hs (hA.below hW) hz h0 h1 h2 : Calls Try.prog 41 #[.slice a N c, .func (.func 49) #[] #[.pointer (some ⟨g0, 0, none⟩), .pointer (some ⟨g1, 0, none⟩), .pointer (some ⟨g2, 0, none⟩)]] W (RetW n W (ws.map (refu flow run az))))
  have HF : Hid (∀ W, Below w.heap.size w W → ∀ e W', RetW n W (ws.map (refu flow run az)) e W' → RetW n w (ws.map (refu flow run az)) e W') := fun W hW e W' h => h.from hW
  have HSh : Hid (∀ W e W', RetW n W (ws.map (refu flow run az)) e W' → ∃ v, e = .returned v) := fun W e W' h => by obtain ⟨a, c, h1, _⟩ := h; exact ⟨_, h1⟩
  clear hR hs hN hl hA hz hM hm
  generalize ws.map (refu flow run az) = ys at KT HF HSh ⊢
  go_enter Try.func24, Try.ntmps24
  go_wp2_with fail
  refine (KT.out _ HB.out _ _ _ ?_ ?_ ?_).mono ?_
  · go_simp
  · go_simp
  · go_simp
  intro e W' h
  have h' := HF.out _ HB.out _ _ h
  obtain ⟨v, rfl⟩ := HSh.out _ _ _ h
  clear h
  have H' : Hid (RetW n w ys (.returned v) W') := h'
  clear h'
  go_wp2_with fail
  go_ret
  exact H'.out
end Go.Proofs.Ytocjgcjechhehaa
