/- The contract of the reference's Decode. -/
import Derived.Test.YtomkoajhjijplaaRDa
import Derived.Deep.RegionLaw
namespace Go.Proofs.Ytomkoajhjijplaa
open Go.ChangeShapes Go.WideShapes Go.ChangeAt Go.RowKit
/-- append with a known run, as a step of a region that draws its order. -/
theorem step_app_run {P : Program} {ops : Array Oper} {o : Oper} {a : Act} {w : World} {K : Act → World → Prop} {Q : Exit → Act → World → Prop} {E : Prop}
    (hg : o.guard = none) (s x : Operand) (t : TypeId) (hop : o.op = Op.call { callee := Callee.builtin Builtin.append, args := #[s, x], argTypes := #[t, t] })
    (vs vx : Value) (hs : a.eval s = vs) (hx : a.eval x = vx) {v' : Value} {w' : World} (hr : ∀ ty, (Builtin.append_ #[t, t] ty #[vs, vx]).run P w = .ok v' w') (hK : K (a.put o.dst v') w') :
    if Region.wanted o (yielded ops a.tmps) = true then Oper.wp P o a w K Q else E := by
  have hw : Region.wanted o (yielded ops a.tmps) = true := by simp [Region.wanted, hg]
  rw [if_pos hw]
  have hrun := hr o.type
  unfold Oper.wp
  simp [execOp, hop, resolve, invoke, builtin, hs, hx, hrun, Result.andThen]
  exact hK
/-- Where the reading stands: the result's box, the own box, the reader. -/
structure RS (w W : World) (g h q : Nat) (l : List UInt8) (e : Int) (cs : Array Value) : Prop where
  gr : w.heap.size < g
  gq : g < q
  hq : h < q
  res : Bk W w.heap.size #[.string ⟨#[]⟩, .int .i64 0, .slice none 0 0, .slice none 0 0] 25
  own : Bk W q cs 25
  st : RT W g h l e
  bl : Below w.heap.size w W
theorem RS.read {w W W' : World} {g h q : Nat} {l l' : List UInt8} {e e' : Int} {cs : Array Value} (m : RS w W g h q l e cs) (s : RT W' g h l' e') (k : KB g W W') : RS w W' g h q l' e' cs := by
  have a := m.gr
  have b := m.gq
  exact ⟨a, b, m.hq, (k.2.2.2.2 _ m.res.lt (by omega)).trans m.res, (k.2.2.2.2 _ m.own.lt (by omega)).trans m.own, s, m.bl.trans (k.below (by omega) m.bl.size)⟩
theorem RS.keep {w W W' : World} {g h q : Nat} {l : List UInt8} {e : Int} {cs : Array Value} (m : RS w W g h q l e cs) (hb : Below w.heap.size W W') (hk : ∀ B, B ≤ q → W'.heap[B]? = W.heap[B]?) : RS w W' g h q l e cs := by
  have a := m.gr
  have b := m.gq
  have c := m.hq
  exact ⟨a, b, c, (hk _ (by omega)).trans m.res, (hk q (Nat.le_refl _)).trans m.own, m.st.keep (hk g (by omega)) (hk h (by omega)), m.bl.trans hb⟩
theorem RS.below {w W W' : World} {g h q : Nat} {l : List UInt8} {e : Int} {cs : Array Value} (m : RS w W g h q l e cs) (hb : Below W.heap.size W W') : RS w W' g h q l e cs :=
  m.keep (hb.mono m.bl.size) (fun B hB => hb.block B (by have := m.own.lt; omega))
theorem RS.put {w W : World} {g h q : Nat} {l : List UInt8} {e : Int} {cs : Array Value} (m : RS w W g h q l e cs) (i : Nat) (v : Value) : RS w (W.setCell ⟨q, i, none⟩ v) g h q l e (cs.setIfInBounds i v) := by
  have a := m.gr
  have b := m.gq
  have c := m.hq
  have hne : ∀ B, B ≠ q → (W.setCell ⟨q, i, none⟩ v).heap[B]? = W.heap[B]? := fun B hB => Below.heap_setCell _ _ _ _ hB
  exact ⟨a, b, c, (hne _ (by omega)).trans m.res, m.own.set i v, m.st.keep (hne g (by omega)) (hne h (by omega)), m.bl.trans ((KB.setCell q W i v).below (by omega) m.bl.size)⟩
theorem RS.first {w w1 w2 : World} {g h : Nat} {l : List UInt8} {e : Int} (cs : Array Value) (hg : (w.alloc (.cells #[.string ⟨#[]⟩, .int .i64 0, .slice none 0 0, .slice none 0 0] 25)).heap.size ≤ g) (hg2 : g < w1.heap.size) (hh : h < w1.heap.size) (b1 : Below (w.alloc (.cells #[.string ⟨#[]⟩, .int .i64 0, .slice none 0 0, .slice none 0 0] 25)).heap.size (w.alloc (.cells #[.string ⟨#[]⟩, .int .i64 0, .slice none 0 0, .slice none 0 0] 25)) w1) (s : RT w2 g h l e) (k : KB g w1 w2) :
    RS w (w2.alloc (.cells cs 25)) g h w2.heap.size l e cs := by
  have hz : (w.alloc (.cells #[.string ⟨#[]⟩, .int .i64 0, .slice none 0 0, .slice none 0 0] 25)).heap.size = w.heap.size + 1 := by simp
  have hk := k.2.2.2.1
  have r1 : Bk w1 w.heap.size _ 25 := (Bk.new w #[.string ⟨#[]⟩, .int .i64 0, .slice none 0 0, .slice none 0 0] 25).below b1
  have r2 : Bk w2 w.heap.size _ 25 := (k.2.2.2.2 _ r1.lt (by omega)).trans r1
  have b2 : Below w.heap.size w w1 := bel2 (bel1 w _) b1
  exact ⟨by omega, by omega, by omega, r2.below (bel1 _ _), Bk.new w2 cs 25, s.keep ((bel1 w2 _).block g (by omega)) ((bel1 w2 _).block h (by omega)), (b2.trans (k.below (by omega) b2.size)).trans ((bel1 w2 _).mono (by have := b2.size; omega))⟩
/-- The same within a round, where a write has its own box. -/
structure RW (w W0 W : World) (g h q p : Nat) (l : List UInt8) (e : Int) (cs ds : Array Value) : Prop where
  rs : RS w W g h q l e cs
  pq : q < p
  w0 : W0.heap.size ≤ p
  wb : Bk W p ds 42
  fr : ∀ B, q < B → B < W0.heap.size → W.heap[B]? = W0.heap[B]?
theorem RW.first {w W0 W : World} {g h q : Nat} {l l' : List UInt8} {e e' : Int} {cs : Array Value} (m : RS w W0 g h q l e cs) (ds : Array Value) (s : RT W g h l' e') (k : KB g W0 W) : RW w W0 (W.alloc (.cells ds 42)) g h q W.heap.size l' e' cs ds := by
  have a := m.gq
  have hk := k.2.2.2.1
  have hq := m.own.lt
  exact ⟨(m.read s k).below (bel1 _ _), by omega, hk, Bk.new W ds 42, fun B h1 h2 => ((bel1 W _).block B (by omega)).trans (k.2.2.2.2 B h2 (by omega))⟩
theorem RW.read {w W0 W W' : World} {g h q p : Nat} {l l' : List UInt8} {e e' : Int} {cs ds : Array Value} (m : RW w W0 W g h q p l e cs ds) (s : RT W' g h l' e') (k : KB g W W') : RW w W0 W' g h q p l' e' cs ds := by
  have a := m.rs.gq
  have b := m.pq
  have c := m.w0
  have d := m.wb.lt
  exact ⟨m.rs.read s k, b, c, (k.2.2.2.2 _ d (by omega)).trans m.wb, fun B h1 h2 => (k.2.2.2.2 B (by omega) (by omega)).trans (m.fr B h1 h2)⟩
theorem RW.keep {w W0 W W' : World} {g h q p : Nat} {l : List UInt8} {e : Int} {cs ds : Array Value} (m : RW w W0 W g h q p l e cs ds) (hb : Below w.heap.size W W') (hk : ∀ B, B ≤ p → W'.heap[B]? = W.heap[B]?) : RW w W0 W' g h q p l e cs ds := by
  have b := m.pq
  have c := m.w0
  exact ⟨m.rs.keep hb (fun B hB => hk B (by omega)), b, c, (hk p (Nat.le_refl _)).trans m.wb, fun B h1 h2 => (hk B (by omega)).trans (m.fr B h1 h2)⟩
theorem RW.below {w W0 W W' : World} {g h q p : Nat} {l : List UInt8} {e : Int} {cs ds : Array Value} (m : RW w W0 W g h q p l e cs ds) (hb : Below W.heap.size W W') : RW w W0 W' g h q p l e cs ds :=
  m.keep (hb.mono m.rs.bl.size) (fun B hB => hb.block B (by have := m.wb.lt; omega))
theorem RW.put {w W0 W : World} {g h q p : Nat} {l : List UInt8} {e : Int} {cs ds : Array Value} (m : RW w W0 W g h q p l e cs ds) (i : Nat) (v : Value) : RW w W0 (W.setCell ⟨p, i, none⟩ v) g h q p l e cs (ds.setIfInBounds i v) := by
  have a := m.rs.gr
  have a2 := m.rs.gq
  have b := m.pq
  have c := m.w0
  have hne : ∀ B, B ≠ p → (W.setCell ⟨p, i, none⟩ v).heap[B]? = W.heap[B]? := fun B hB => Below.heap_setCell _ _ _ _ hB
  exact ⟨m.rs.keep ((KB.setCell p W i v).below (by omega) m.rs.bl.size) (fun B hB => hne B (by omega)), b, c, m.wb.set i v, fun B h1 h2 => (hne B (by omega)).trans (m.fr B h1 h2)⟩
/-- One event more is read, and appended. -/
structure EvS (w W0 w2 w3 w5 : World) (g h q p : Nat) (l2 : List UInt8) (e2 : Int) (cs : Array Value) (d0 d1 d2 d3 x : Value) (ua : Option Addr) (un uc : Nat) (ua' : Option Addr) (un' uc' : Nat) (acc : List (List UInt8)) : Prop where
  run : ∀ ty, (Builtin.append_ #[40, 40] ty #[.slice ua un uc, .slice (some ⟨w3.heap.size, 0, none⟩) 1 1]).run Try.prog (w3.alloc (.cells #[x] 22)) = .ok (.slice ua' un' uc') w5
  c2 : w2.cell? ⟨p, 4, none⟩ = some (.slice ua un uc)
  c3 : w3.cell? ⟨p, 4, none⟩ = some (.slice ua un uc)
  c4 : (w3.alloc (.cells #[x] 22)).cell? ⟨p, 4, none⟩ = some (.slice ua un uc)
  c5 : w5.cell? ⟨p, 4, none⟩ = some (.slice ua un uc)
  frz : w5.frozen? ⟨p, 4, none⟩ = false
  mid : RW w W0 (w5.setCell ⟨p, 4, none⟩ (.slice ua' un' uc')) g h q p l2 e2 cs #[d0, d1, d2, d3, .slice ua' un' uc']
  ev : EQ (p + 1) (w5.setCell ⟨p, 4, none⟩ (.slice ua' un' uc')) (.slice ua' un' uc') acc
theorem ev_step {w W0 wr w2 w3 : World} {g h q p : Nat} {lm l2 X : List UInt8} {em e2 : Int} {cs : Array Value} {d0 d1 d2 d3 : Value} {ua : Option Addr} {un uc z cap : Nat} {acc : List (List UInt8)}
    (m : RW w W0 wr g h q p lm em cs #[d0, d1, d2, d3, .slice ua un uc]) (hv : EQ (p + 1) wr (.slice ua un uc) acc) (s2 : RT w2 g h l2 e2) (k2 : KB g wr.drew w2) (hh : Lib.HoldsBytes w3 (.slice (some ⟨w2.heap.size, 0, none⟩) z cap) X) (hb3 : Below w2.heap.size w2 w3) (hlt3 : w2.heap.size < w3.heap.size) (hl : acc.length ≤ 1000) :
    ∃ ua' un' uc' w5, EvS w W0 w2 w3 w5 g h q p l2 e2 cs d0 d1 d2 d3 (.slice (some ⟨w2.heap.size, 0, none⟩) z cap) ua un uc ua' un' uc' (acc ++ [X]) := by
  have k2' : KB g wr w2 := (KB.of_below (Below.refl _ wr).drew).trans k2
  have gq := m.rs.gq
  have pq := m.pq
  have gr := m.rs.gr
  have hp := m.wb.lt
  have hz2 : wr.heap.size ≤ w2.heap.size := k2'.2.2.2.1
  have m2 := m.read s2 k2'
  have m3 := m2.below hb3
  have m4 := m3.below (bel1 w3 (.cells #[.slice (some ⟨w2.heap.size, 0, none⟩) z cap] 22))
  have v2 : EQ (p + 1) w2 (.slice ua un uc) acc := hv.keep hz2 (fun B h1 h2 => k2'.2.2.2.2 B h2 (by omega))
  have v3 : EQ (p + 1) w3 (.slice ua un uc) acc := v2.keep hb3.size (fun B _ h2 => hb3.block B h2)
  have v4 : EQ (p + 1) (w3.alloc (.cells #[.slice (some ⟨w2.heap.size, 0, none⟩) z cap] 22)) (.slice ua un uc) acc := v3.keep (bel1 w3 _).size (fun B _ h2 => (bel1 w3 _).block B h2)
  have hlto : ∀ B, (Value.slice ua un uc).ownBlock = some B → B < wr.heap.size := fun B hB => by obtain ⟨cells, ho, _⟩ := hv; exact (World.ownsRow.lt ho B hB).2
  have hsz4 : (w3.alloc (.cells #[.slice (some ⟨w2.heap.size, 0, none⟩) z cap] 22)).heap.size = w3.heap.size + 1 := by simp
  have hq4 : Hq (fun B => p + 1 ≤ B ∧ (Value.slice ua un uc).ownBlock ≠ some B) (w3.alloc (.cells #[.slice (some ⟨w2.heap.size, 0, none⟩) z cap] 22)) (.slice (some ⟨w2.heap.size, 0, none⟩) z cap) X :=
    ⟨w2.heap.size, z, cap, rfl, ⟨by omega, fun e => by have := hlto _ e; omega⟩, by omega, holds_below hh (bel1 w3 _)⟩
  have hsrc : (w3.alloc (.cells #[.slice (some ⟨w2.heap.size, 0, none⟩) z cap] 22)).cell? ⟨w3.heap.size, 0, none⟩ = some (.slice (some ⟨w2.heap.size, 0, none⟩) z cap) := (Bk.new w3 _ 22).cell 0
  obtain ⟨u', w5, hr, hv5, hb5⟩ := v4.app hsrc hq4 (by omega) hl
  obtain ⟨ua', uc', rfl⟩ : ∃ a c, u' = .slice a (acc ++ [X]).length c := by obtain ⟨cells, ho, _⟩ := hv5; exact ownShape ho
  have m5 : RW w W0 w5 g h q p l2 e2 cs #[d0, d1, d2, d3, .slice ua un uc] := m4.keep (hb5.mono (by omega)) (fun B hB => hb5.block B (by omega))
  have m6 := m5.put 4 (.slice ua' (acc ++ [X]).length uc')
  have hne : ∀ B, B ≠ p → (w5.setCell ⟨p, 4, none⟩ (.slice ua' (acc ++ [X]).length uc')).heap[B]? = w5.heap[B]? := fun B hB => Below.heap_setCell _ _ _ _ hB
  exact ⟨ua', _, uc', w5, hr, m2.wb.cell 4, m3.wb.cell 4, m4.wb.cell 4, m5.wb.cell 4, m5.wb.frozen 4, m6, hv5.keep (by simp [World.setCell]) (fun B h1 _ => hne B (by omega))⟩
/-- A write is appended. -/
structure WrS (w wr w5 : World) (g h q : Nat) (l2 : List UInt8) (e2 : Int) (k0 k1 rv : Value) (row : List UInt8) (d0 d1 d2 d3 d4 : Value) (wa : Option Addr) (wn wc : Nat) (wa' : Option Addr) (wn' wc' : Nat) (acc : List Wt) : Prop where
  run : ∀ ty, (Builtin.append_ #[23, 23] ty #[.slice wa wn wc, .slice (some ⟨wr.heap.size, 0, none⟩) 1 1]).run Try.prog (wr.alloc (.cells #[d0, d1, d2, d3, d4] 42)) = .ok (.slice wa' wn' wc') w5
  c5 : w5.cell? ⟨q, 3, none⟩ = some (.slice wa wn wc)
  frz : w5.frozen? ⟨q, 3, none⟩ = false
  rs : RS w (w5.setCell ⟨q, 3, none⟩ (.slice wa' wn' wc')) g h q l2 e2 #[k0, k1, rv, .slice wa' wn' wc']
  ri : RowsI (q + 1) (w5.setCell ⟨q, 3, none⟩ (.slice wa' wn' wc')) rv row (.slice wa' wn' wc') acc
theorem wr_step {w W0 wr : World} {g h q p : Nat} {l2 row : List UInt8} {e2 : Int} {k0 k1 rv : Value} {t : Wt} {wa ua : Option Addr} {wn wc un uc : Nat} {acc : List Wt}
    (m : RW w W0 wr g h q p l2 e2 #[k0, k1, rv, .slice wa wn wc] #[.string t.br, .string t.fk, .int .i64 t.kp, .int .i64 t.ta, .slice ua un uc]) (hE : EQ (p + 1) wr (.slice ua un uc) t.ev) (hl : t.ev.length ≤ 1000) (hR : RowsI (q + 1) W0 rv row (.slice wa wn wc) acc) (hl2 : acc.length ≤ 1000) :
    ∃ wa' wn' wc' w5, WrS w wr w5 g h q l2 e2 k0 k1 rv row (.string t.br) (.string t.fk) (.int .i64 t.kp) (.int .i64 t.ta) (.slice ua un uc) wa wn wc wa' wn' wc' (acc ++ [t]) := by
  have gr := m.rs.gr
  have gq := m.rs.gq
  have pq := m.pq
  have w0 := m.w0
  have hp := m.wb.lt
  have hlto : ∀ B, (Value.slice wa wn wc).ownBlock = some B → B < W0.heap.size := fun B hB => by obtain ⟨cells, ho, _⟩ := hR.ws; exact (World.ownsRow.lt ho B hB).2
  have r1 : RowsI (q + 1) wr rv row (.slice wa wn wc) acc := hR.keep (by omega) (fun B h1 h2 => m.fr B (by omega) h2)
  have r4 := r1.keep (bel1 wr (.cells #[.string t.br, .string t.fk, .int .i64 t.kp, .int .i64 t.ta, .slice ua un uc] 42)).size (fun B _ h2 => (bel1 wr _).block B h2)
  have v4 := hE.keep (bel1 wr (.cells #[.string t.br, .string t.fk, .int .i64 t.kp, .int .i64 t.ta, .slice ua un uc] 42)).size (fun B _ h2 => (bel1 wr _).block B h2)
  have lp : LP (fun B => q + 1 ≤ B ∧ (Value.slice wa wn wc).ownBlock ≠ some B) (wr.alloc (.cells #[.string t.br, .string t.fk, .int .i64 t.kp, .int .i64 t.ta, .slice ua un uc] 42)) (.slice ua un uc) t.ev := v4.lp hl (fun B h1 _ => ⟨by omega, fun e => by have := hlto B e; omega⟩)
  have bk := Bk.new wr #[.string t.br, .string t.fk, .int .i64 t.kp, .int .i64 t.ta, .slice ua un uc] 42
  have hsz4 : (wr.alloc (.cells #[.string t.br, .string t.fk, .int .i64 t.kp, .int .i64 t.ta, .slice ua un uc] 42)).heap.size = wr.heap.size + 1 := by simp
  obtain ⟨wa', wn', wc', w5, hr, hri, hb5⟩ := r4.app (src := wr.heap.size) (t := t) (v := .slice ua un uc) ⟨bk.cell 0, bk.cell 1, bk.cell 2, bk.cell 3, bk.cell 4⟩ lp (by omega) hl2
  have m4 := m.rs.below (bel1 wr (.cells #[.string t.br, .string t.fk, .int .i64 t.kp, .int .i64 t.ta, .slice ua un uc] 42))
  have m5 : RS w w5 g h q l2 e2 #[k0, k1, rv, .slice wa wn wc] := m4.keep (hb5.mono (by omega)) (fun B hB => hb5.block B (by omega))
  have hne : ∀ B, B ≠ q → (w5.setCell ⟨q, 3, none⟩ (.slice wa' wn' wc')).heap[B]? = w5.heap[B]? := fun B hB => Below.heap_setCell _ _ _ _ hB
  exact ⟨wa', wn', wc', w5, hr, m5.own.cell 3, m5.own.frozen 3, m5.put 3 _, hri.keep (by simp [World.setCell]) (fun B h1 _ => hne B (by omega))⟩
theorem Lp.first {α : Type} (f : Nat → List UInt8 → Int → List α × List UInt8 × Int) (N : Nat) (l : List UInt8) (e : Int) : Lp f N (f N l e) 0 [] l e := ⟨by rw [Nat.sub_zero], fun _ => by rw [Nat.sub_zero, List.nil_append]⟩
theorem conv_lt {s : ByteArray} {w w' : World} {n c : Nat} (h : (convert 9 22 (.string s)).run Try.prog w = .ok (.slice (some ⟨w.heap.size, 0, none⟩) n c) w') : w.heap.size < w'.heap.size := by
  have e := h.symm.trans (run_bytes_of_string (P := Try.prog) w 9 22 5 s Try.underlying9 Try.underlying22 Try.underlying5)
  cases e
  simp
theorem ret11 (tmps : Array Value) {w : World} {g : Nat} {c0 c1 c2 c3 y : Value} (hp : tmps.getD 2 undef = .pointer (some ⟨g, 0, none⟩)) (hq : tmps.getD 3 undef = y) (hb : Bk w g #[c0, c1, c2, c3] 25) :
    (results Try.f11 tmps).run Try.prog w = .ok (.tuple #[.agg #[c0, c1, c2, c3], y]) w := by
  have hp' : tmps[2]?.getD undef = .pointer (some ⟨g, 0, none⟩) := by simpa using hp
  have hq' : tmps[3]?.getD undef = y := by simpa using hq
  simp [results, hp', hq', asAddr, load4 hb]
/-- The batch that is read. -/
theorem RowsI.is {q : Nat} {W : World} {key : ByteArray} {n : Int} {rv : Value} {row : List UInt8} {wa : Option Addr} {wn wc : Nat} {acc : List Wt} (h : RowsI (q + 1) W rv row (.slice wa wn wc) acc) (hl : acc.length ≤ 1000) : BIs W (.agg #[.string key, .int .i64 n, rv, .slice wa wn wc]) ⟨key, n, row, acc⟩ := by
  obtain ⟨⟨nb, n2, c2, rfl, _, _, hh⟩, hw⟩ := h
  obtain ⟨h1, rfl⟩ := hw.wr
  exact ⟨_, _, _, _, _, rfl, hh, by show acc.length ≤ _; omega, h1⟩

set_option maxHeartbeats 8000000 in
set_option maxRecDepth 100000 in
theorem rdecode_calls (v : Value) (l : List UInt8) (w : World) (hv : Lib.HoldsBytes w v l) (hl : l.length ≤ 140737488351232) : Calls Try.prog 11 #[v] w (DeP w (decB l)) := by
  have OC : Hid (Calls Try.prog 36 #[v] (w.alloc (.cells #[.string ⟨#[]⟩, .int .i64 0, .slice none 0 0, .slice none 0 0] 25)) _) := ropen2_calls v l _ (holds_below hv (bel1 _ _)) hl (by simp)
  obtain ⟨va, vn, vc, rfl⟩ : ∃ p n c, v = .slice p n c := by obtain ⟨p, c, rfl, _⟩ := hv; exact ⟨_, _, _, rfl⟩
  have T1 : Hid (∀ W g h, RT W g h l 0 → Calls Try.prog 37 #[.pointer (some ⟨g, 0, none⟩), .int .i64 64] W (Rr W g h (.string (str (q1 l 0).1)) (q1 l 0).2.1 (q1 l 0).2.2)) := fun W g h r => rtext_rt W g h l 0 64 r
  have N2 : Hid (∀ W g h, RT W g h (q1 l 0).2.1 (q1 l 0).2.2 → Calls Try.prog 38 #[.pointer (some ⟨g, 0, none⟩), .int .i64 2147483648] W (Rr W g h (.int .i64 (q2 l 0).1) (q2 l 0).2.1 (q2 l 0).2.2)) := fun W g h r => rnum_rt W g h _ _ 2147483648 r
  have T3 : Hid (∀ W g h, RT W g h (q2 l 0).2.1 (q2 l 0).2.2 → Calls Try.prog 37 #[.pointer (some ⟨g, 0, none⟩), .int .i64 524288] W (Rr W g h (.string (str (q3 l 0).1)) (q3 l 0).2.1 (q3 l 0).2.2)) := fun W g h r => rtext_rt W g h _ _ 524288 r
  have N4 : Hid (∀ W g h, RT W g h (q3 l 0).2.1 (q3 l 0).2.2 → Calls Try.prog 38 #[.pointer (some ⟨g, 0, none⟩), .int .i64 4] W (Rr W g h (.int .i64 (q4 l 0).1) (q4 l 0).2.1 (q4 l 0).2.2)) := fun W g h r => rnum_rt W g h _ _ 4 r
  have n0 : 0 ≤ (q4 l 0).1 := sNum_nat 4 _ _
  have nle : (q4 l 0).1 ≤ 4 := num_top (m := 4) (by decide) _ _
  have hdef : decB l = if en (rdWs (q4 l 0).1.toNat (q4 l 0).2.1 (q4 l 0).2.2).2.1 (rdWs (q4 l 0).1.toNat (q4 l 0).2.1 (q4 l 0).2.2).2.2 = 0 then (if mayB ⟨str (q1 l 0).1, (q2 l 0).1, (q3 l 0).1, (rdWs (q4 l 0).1.toNat (q4 l 0).2.1 (q4 l 0).2.2).1⟩ = true then (⟨str (q1 l 0).1, (q2 l 0).1, (q3 l 0).1, (rdWs (q4 l 0).1.toNat (q4 l 0).2.1 (q4 l 0).2.2).1⟩, 0) else (zB, 3)) else (zB, en (rdWs (q4 l 0).1.toNat (q4 l 0).2.1 (q4 l 0).2.2).2.1 (rdWs (q4 l 0).1.toNat (q4 l 0).2.1 (q4 l 0).2.2).2.2) := rfl
  generalize decB l = DL at hdef ⊢
  generalize q1 l 0 = Q1 at T1 N2 hdef
  generalize q2 l 0 = Q2 at N2 T3 hdef
  generalize q3 l 0 = Q3 at T3 N4 hdef
  generalize q4 l 0 = Q4 at N4 hdef n0 nle
  obtain ⟨X1, l1, e1⟩ := Q1
  obtain ⟨n2, l2, e2⟩ := Q2
  obtain ⟨X3, l3, e3⟩ := Q3
  obtain ⟨n4, l4, e4⟩ := Q4
  dsimp only at T1 N2 T3 N4 n0 nle hdef
  obtain ⟨N, rfl⟩ := Int.eq_ofNat_of_zero_le n0
  rw [Int.toNat_natCast] at hdef
  have HL0 : Hid (Lp rdWs N (rdWs N l4 e4) 0 [] l4 e4) := Lp.first _ _ _ _
  generalize rdWs N l4 e4 = R at HL0 hdef
  obtain ⟨Rw, Rl, Re⟩ := R
  dsimp only at hdef
  have HD : Hid (DL = if en Rl Re = 0 then (if mayB ⟨str X1, n2, X3, Rw⟩ = true then (⟨str X1, n2, X3, Rw⟩, 0) else (zB, 3)) else (zB, en Rl Re)) := hdef
  have HP : Hid (∀ x w', DeP w DL x w' ↔ ∃ u, x = .returned (.tuple #[u, .int .i64 DL.2]) ∧ BIs w' u DL.1 ∧ Below w.heap.size w w') := fun _ _ => Iff.rfl
  have HN : Hid (N ≤ 4) := by show _ ≤ _; omega
  generalize DeP w DL = DP' at HP ⊢
  clear hv hl hdef n0 nle
  generalize hK : str X1 = K1 at T1 HD
  clear hK
  go_enter Try.func11, Try.ntmps11
  go_wp2_with fail
  refine OC.out.mono ?_
  rintro x w1 ⟨g, h, rfl, hg, hh, s1, b1⟩
  have C1 : Hid (Calls Try.prog 37 #[.pointer (some ⟨g, 0, none⟩), .int .i64 64] w1 _) := T1.out w1 g h s1
  have HO : Hid ((w.alloc (.cells #[.string ⟨#[]⟩, .int .i64 0, .slice none 0 0, .slice none 0 0] 25)).heap.size ≤ g ∧ g < w1.heap.size ∧ h < w1.heap.size ∧ Below (w.alloc (.cells #[.string ⟨#[]⟩, .int .i64 0, .slice none 0 0, .slice none 0 0] 25)).heap.size (w.alloc (.cells #[.string ⟨#[]⟩, .int .i64 0, .slice none 0 0, .slice none 0 0] 25)) w1) := ⟨hg, s1.lt, hh, b1⟩
  clear hg hh s1 b1 OC T1
  go_wp2_with fail
  refine C1.out.mono ?_
  rintro x w2 ⟨rfl, s2, k2⟩
  have M2 : Hid (RS w (w2.alloc (.cells #[.string K1, .int .i64 0, .slice none 0 0, .slice none 0 0] 25)) g h w2.heap.size l1 e1 #[.string K1, .int .i64 0, .slice none 0 0, .slice none 0 0]) := RS.first _ HO.out.1 HO.out.2.1 HO.out.2.2.1 HO.out.2.2.2 s2 k2
  obtain ⟨W3, hW3⟩ : ∃ W3, W3 = w2.alloc (.cells #[.string K1, .int .i64 0, .slice none 0 0, .slice none 0 0] 25) := ⟨_, rfl⟩
  obtain ⟨q, hq⟩ : ∃ q, q = w2.heap.size := ⟨_, rfl⟩
  rw [← hW3, ← hq] at M2
  have HW3 : Hid (W3 = _) := hW3
  have HQ : Hid (q = w2.heap.size) := hq
  clear s2 k2 hW3 hq C1 HO
  go_upto_region 3 with fail
  rw [← HW3.out, ← HQ.out]
  have C2 : Hid (Calls Try.prog 38 #[.pointer (some ⟨g, 0, none⟩), .int .i64 2147483648] W3 _) := N2.out W3 g h M2.out.st
  clear HW3 HQ N2
  go_wp2_with fail
  refine C2.out.mono ?_
  rintro x w4 ⟨rfl, s4, k4⟩
  have M4 : Hid (RS w w4 g h q l2 e2 _) := M2.out.read s4 k4
  have M5 : Hid (RS w (w4.setCell ⟨q, 1, none⟩ (.int .i64 n2)) g h q l2 e2 #[.string K1, .int .i64 n2, .slice none 0 0, .slice none 0 0]) := M4.out.put 1 _
  have y1 : w4.cell? ⟨q, 1, none⟩ = some (.int .i64 0) := M4.out.own.cell 1
  have z1 := M4.out.own.frozen 1
  obtain ⟨W5, hW5⟩ : ∃ W5, W5 = w4.setCell ⟨q, 1, none⟩ (.int .i64 n2) := ⟨_, rfl⟩
  rw [← hW5] at M5
  have HW5 : Hid (W5 = _) := hW5
  clear s4 k4 hW5 C2 M2 M4
  go_upto_region 4 with fail
  rw [← HW5.out]
  have C3 : Hid (Calls Try.prog 37 #[.pointer (some ⟨g, 0, none⟩), .int .i64 524288] W5 _) := T3.out W5 g h M5.out.st
  clear HW5 T3 y1 z1
  go_wp2_with fail
  refine C3.out.mono ?_
  rintro x w6 ⟨rfl, s6, k6⟩
  have M6 : Hid (RS w w6 g h q l3 e3 _) := M5.out.read s6 k6
  obtain ⟨cap, w7, hcv, hh7, hb7⟩ := conv_bytes (str X3) w6
  have hX3 : (str X3).data.toList = X3 := by simp [str]
  rw [hX3] at hh7
  have M7 : Hid (RS w w7 g h q l3 e3 _) := M6.out.below hb7
  have HR7 : Hid (Hq (fun B => q + 1 ≤ B) w7 (.slice (some ⟨w6.heap.size, 0, none⟩) (str X3).size cap) X3) := ⟨_, _, _, rfl, M6.out.own.lt, conv_lt hcv, hh7⟩
  generalize (str X3).size = z at hcv HR7
  have y2 : w7.cell? ⟨q, 2, none⟩ = some (.slice none 0 0) := M7.out.own.cell 2
  have z2 := M7.out.own.frozen 2
  have M8 : Hid (RS w (w7.setCell ⟨q, 2, none⟩ (.slice (some ⟨w6.heap.size, 0, none⟩) z cap)) g h q l3 e3 #[.string K1, .int .i64 n2, .slice (some ⟨w6.heap.size, 0, none⟩) z cap, .slice none 0 0]) := M7.out.put 2 _
  have HR8 : Hid (Hq (fun B => q + 1 ≤ B) (w7.setCell ⟨q, 2, none⟩ (.slice (some ⟨w6.heap.size, 0, none⟩) z cap)) (.slice (some ⟨w6.heap.size, 0, none⟩) z cap) X3) := HR7.out.keep (by simp [World.setCell]) (fun B hB _ => ⟨Below.heap_setCell _ _ _ _ (show B ≠ q by omega), hB⟩)
  obtain ⟨W8, hW8⟩ : ∃ W8, W8 = w7.setCell ⟨q, 2, none⟩ (.slice (some ⟨w6.heap.size, 0, none⟩) z cap) := ⟨_, rfl⟩
  rw [← hW8] at M8 HR8
  have HW8 : Hid (W8 = _) := hW8
  clear s6 k6 hX3 hh7 hb7 hW8 C3 M5 M6 M7 HR7
  go_upto_region 5 with fail
  rw [← HW8.out]
  have C4 : Hid (Calls Try.prog 38 #[.pointer (some ⟨g, 0, none⟩), .int .i64 4] W8 _) := N4.out W8 g h M8.out.st
  clear HW8 N4 y2 z2 hcv
  generalize w6.heap.size = rb at M8 HR8
  go_wp2_with fail
  refine C4.out.mono ?_
  rintro x w9 ⟨rfl, s9, k9⟩
  have M9 : Hid (RS w w9 g h q l4 e4 _) := M8.out.read s9 k9
  have R9 : Hid (RowsI (q + 1) w9 (.slice (some ⟨rb, 0, none⟩) z cap) X3 (.slice none 0 0) []) := RowsI.nil (HR8.out.keep k9.2.2.2.1 (fun B hB hl => ⟨k9.2.2.2.2 B hl (by have := M8.out.gq; omega), hB⟩))
  clear s9 k9 C4 M8 HR8
  go_wp2_with fail
  go_loopw [7] (fun i wr => ∃ (j : Nat) (wa : Option Addr) (wn wc : Nat) (acc : List Wt) (lj : List UInt8) (ej : Int), j ≤ N ∧ i = .int .i64 (j : Int) ∧ Hid (acc.length = j) ∧ Hid (RS w wr g h q lj ej #[.string K1, .int .i64 n2, .slice (some ⟨rb, 0, none⟩) z cap, .slice wa wn wc]) ∧ Hid (RowsI (q + 1) wr (.slice (some ⟨rb, 0, none⟩) z cap) X3 (.slice wa wn wc) acc) ∧ Hid (Lp rdWs N (Rw, Rl, Re) j acc lj ej)) (fun i _ => N - (intOf i).toNat)
  case atStart => exact ⟨0, none, 0, 0, [], l4, e4, Nat.zero_le _, rfl, rfl, M9, R9, HL0⟩
  case round =>
    obtain ⟨j, wa, wn, wc, acc, lj, ej, hj, rfl, HA, HM, HR, HJ⟩ := hrel
    have EC : Hid (Calls Try.prog 39 #[.pointer (some ⟨g, 0, none⟩)] wr _) := rerr_rt _ _ _ _ _ HM.out.st
    have HAl : Hid (acc.length ≤ 1000) := by have := HA.out; have := HN.out; show _ ≤ _; omega
    clear M9 R9 HL0
    by_cases hlt : j < N
    · have hjl : (j : Int) < (N : Int) := by omega
      by_cases h0 : ej = 0
      · subst h0
        go_wp2_with fail
        refine EC.out.mono ?_
        rintro x wz ⟨rfl, hwz⟩
        have hwz2 := hwz.symm
        subst hwz2
        clear hwz EC
        have T1 : Hid (Calls Try.prog 37 #[.pointer (some ⟨g, 0, none⟩), .int .i64 64] wr (Rr wr g h (.string (str (r1 lj 0).1)) (r1 lj 0).2.1 (r1 lj 0).2.2)) := rtext_rt wr g h lj 0 64 HM.out.st
        have T2 : Hid (∀ W, RT W g h (r1 lj 0).2.1 (r1 lj 0).2.2 → Calls Try.prog 37 #[.pointer (some ⟨g, 0, none⟩), .int .i64 64] W (Rr W g h (.string (str (r2 lj 0).1)) (r2 lj 0).2.1 (r2 lj 0).2.2)) := fun W r => rtext_rt W g h _ _ 64 r
        have N3 : Hid (∀ W, RT W g h (r2 lj 0).2.1 (r2 lj 0).2.2 → Calls Try.prog 38 #[.pointer (some ⟨g, 0, none⟩), .int .i64 120] W (Rr W g h (.int .i64 (r3 lj 0).1) (r3 lj 0).2.1 (r3 lj 0).2.2)) := fun W r => rnum_rt W g h _ _ 120 r
        have N4 : Hid (∀ W, RT W g h (r3 lj 0).2.1 (r3 lj 0).2.2 → Calls Try.prog 38 #[.pointer (some ⟨g, 0, none⟩), .int .i64 120] W (Rr W g h (.int .i64 (r4 lj 0).1) (r4 lj 0).2.1 (r4 lj 0).2.2)) := fun W r => rnum_rt W g h _ _ 120 r
        have N5 : Hid (∀ W, RT W g h (r4 lj 0).2.1 (r4 lj 0).2.2 → Calls Try.prog 38 #[.pointer (some ⟨g, 0, none⟩), .int .i64 120] W (Rr W g h (.int .i64 (r5 lj 0).1) (r5 lj 0).2.1 (r5 lj 0).2.2)) := fun W r => rnum_rt W g h _ _ 120 r
        have n0 : 0 ≤ (r5 lj 0).1 := sNum_nat 120 _ _
        have nle : (r5 lj 0).1 ≤ 120 := num_top (m := 120) (by decide) _ _
        have hW : rdW lj 0 = (⟨str (r1 lj 0).1, str (r2 lj 0).1, (r3 lj 0).1, (r4 lj 0).1, (rdE (r5 lj 0).1.toNat (r5 lj 0).2.1 (r5 lj 0).2.2).1⟩, (rdE (r5 lj 0).1.toNat (r5 lj 0).2.1 (r5 lj 0).2.2).2) := rfl
        generalize r1 lj 0 = Q1 at T1 T2 hW
        generalize r2 lj 0 = Q2 at T2 N3 hW
        generalize r3 lj 0 = Q3 at N3 N4 hW
        generalize r4 lj 0 = Q4 at N4 N5 hW
        generalize r5 lj 0 = Q5 at N5 hW n0 nle
        obtain ⟨Y1, m1, f1⟩ := Q1
        obtain ⟨Y2, m2, f2⟩ := Q2
        obtain ⟨kp, m3, f3⟩ := Q3
        obtain ⟨ta, m4, f4⟩ := Q4
        obtain ⟨nE, m5, f5⟩ := Q5
        dsimp only at T1 T2 N3 N4 N5 n0 nle hW
        obtain ⟨M, rfl⟩ := Int.eq_ofNat_of_zero_le n0
        rw [Int.toNat_natCast] at hW
        have HF0 : Hid (Lp rdE M (rdE M m5 f5) 0 [] m5 f5) := Lp.first _ _ _ _
        generalize rdE M m5 f5 = RE at HF0 hW
        obtain ⟨Ee, El, Er⟩ := RE
        dsimp only at hW
        generalize str Y1 = br at T1 hW
        generalize str Y2 = fk at T2 hW
        have HW : Hid (rdW lj 0 = (⟨br, fk, kp, ta, Ee⟩, El, Er)) := hW
        have HMb : Hid (M ≤ 120) := by show _ ≤ _; omega
        have HM0 : Hid (RS w wr g h q lj 0 _) := HM
        clear hW n0 nle
        go_wp2_with fail
        refine T1.out.mono ?_
        rintro x w10 ⟨rfl, s1, k1⟩
        have P1 : Hid (RW w wr (w10.alloc (.cells #[.string br, .string ⟨#[]⟩, .int .i64 0, .int .i64 0, .slice none 0 0] 42)) g h q w10.heap.size m1 f1 _ #[.string br, .string ⟨#[]⟩, .int .i64 0, .int .i64 0, .slice none 0 0]) := RW.first HM.out _ s1 k1
        obtain ⟨W11, hW11⟩ : ∃ W11, W11 = w10.alloc (.cells #[.string br, .string ⟨#[]⟩, .int .i64 0, .int .i64 0, .slice none 0 0] 42) := ⟨_, rfl⟩
        obtain ⟨p, hp⟩ : ∃ p, p = w10.heap.size := ⟨_, rfl⟩
        rw [← hW11, ← hp] at P1
        have HW11 : Hid (W11 = _) := hW11
        have HPP : Hid (p = w10.heap.size) := hp
        clear s1 k1 hW11 hp T1
        go_upto_region 10 with fail
        rw [← HW11.out, ← HPP.out]
        have C2 : Hid (Calls Try.prog 37 #[.pointer (some ⟨g, 0, none⟩), .int .i64 64] W11 _) := T2.out W11 P1.out.rs.st
        clear HW11 HPP T2
        go_wp2_with fail
        refine C2.out.mono ?_
        rintro x w12 ⟨rfl, s2, k2⟩
        have P2 : Hid (RW w wr w12 g h q p m2 f2 _ _) := P1.out.read s2 k2
        have P3 : Hid (RW w wr (w12.setCell ⟨p, 1, none⟩ (.string fk)) g h q p m2 f2 _ #[.string br, .string fk, .int .i64 0, .int .i64 0, .slice none 0 0]) := P2.out.put 1 _
        have yy : w12.cell? ⟨p, 1, none⟩ = some (.string ⟨#[]⟩) := P2.out.wb.cell 1
        have zz := P2.out.wb.frozen 1
        obtain ⟨W13, hW13⟩ : ∃ W13, W13 = w12.setCell ⟨p, 1, none⟩ (.string fk) := ⟨_, rfl⟩
        rw [← hW13] at P3
        have HW13 : Hid (W13 = _) := hW13
        clear s2 k2 hW13 C2 P1 P2
        go_upto_region 11 with fail
        rw [← HW13.out]
        have C3 : Hid (Calls Try.prog 38 #[.pointer (some ⟨g, 0, none⟩), .int .i64 120] W13 _) := N3.out W13 P3.out.rs.st
        clear HW13 N3 yy zz
        go_wp2_with fail
        refine C3.out.mono ?_
        rintro x w14 ⟨rfl, s3, k3⟩
        have P4 : Hid (RW w wr w14 g h q p m3 f3 _ _) := P3.out.read s3 k3
        have P5 : Hid (RW w wr (w14.setCell ⟨p, 2, none⟩ (.int .i64 kp)) g h q p m3 f3 _ #[.string br, .string fk, .int .i64 kp, .int .i64 0, .slice none 0 0]) := P4.out.put 2 _
        have yy : w14.cell? ⟨p, 2, none⟩ = some (.int .i64 0) := P4.out.wb.cell 2
        have zz := P4.out.wb.frozen 2
        obtain ⟨W15, hW15⟩ : ∃ W15, W15 = w14.setCell ⟨p, 2, none⟩ (.int .i64 kp) := ⟨_, rfl⟩
        rw [← hW15] at P5
        have HW15 : Hid (W15 = _) := hW15
        clear s3 k3 hW15 C3 P3 P4
        go_upto_region 12 with fail
        rw [← HW15.out]
        have C4 : Hid (Calls Try.prog 38 #[.pointer (some ⟨g, 0, none⟩), .int .i64 120] W15 _) := N4.out W15 P5.out.rs.st
        clear HW15 N4 yy zz
        go_wp2_with fail
        refine C4.out.mono ?_
        rintro x w16 ⟨rfl, s4, k4⟩
        have P6 : Hid (RW w wr w16 g h q p m4 f4 _ _) := P5.out.read s4 k4
        have P7 : Hid (RW w wr (w16.setCell ⟨p, 3, none⟩ (.int .i64 ta)) g h q p m4 f4 _ #[.string br, .string fk, .int .i64 kp, .int .i64 ta, .slice none 0 0]) := P6.out.put 3 _
        have yy : w16.cell? ⟨p, 3, none⟩ = some (.int .i64 0) := P6.out.wb.cell 3
        have zz := P6.out.wb.frozen 3
        obtain ⟨W17, hW17⟩ : ∃ W17, W17 = w16.setCell ⟨p, 3, none⟩ (.int .i64 ta) := ⟨_, rfl⟩
        rw [← hW17] at P7
        have HW17 : Hid (W17 = _) := hW17
        clear s4 k4 hW17 C4 P5 P6
        go_upto_region 13 with fail
        rw [← HW17.out]
        have C5 : Hid (Calls Try.prog 38 #[.pointer (some ⟨g, 0, none⟩), .int .i64 120] W17 _) := N5.out W17 P7.out.rs.st
        clear HW17 N5 yy zz
        go_wp2_with fail
        refine C5.out.mono ?_
        rintro x w18 ⟨rfl, s5, k5⟩
        have P8 : Hid (RW w wr w18 g h q p m5 f5 _ _) := P7.out.read s5 k5
        clear s5 k5 C5 P7
        obtain ⟨W0, hW0⟩ : ∃ W0, W0 = wr := ⟨_, rfl⟩
        rw [← hW0] at P8 HR
        clear hW0 HM HM0
        go_wp2_with fail
        go_loopw [10] (fun i wr => ∃ (m : Nat) (ua : Option Addr) (un uc : Nat) (ac2 : List (List UInt8)) (lm : List UInt8) (em : Int), m ≤ M ∧ i = .int .i64 (m : Int) ∧ Hid (ac2.length = m) ∧ Hid (RW w W0 wr g h q p lm em #[.string K1, .int .i64 n2, .slice (some ⟨rb, 0, none⟩) z cap, .slice wa wn wc] #[.string br, .string fk, .int .i64 kp, .int .i64 ta, .slice ua un uc]) ∧ Hid (EQ (p + 1) wr (.slice ua un uc) ac2) ∧ Hid (Lp rdE M (Ee, El, Er) m ac2 lm em)) (fun i _ => M - (intOf i).toNat)
        case atStart => exact ⟨0, none, 0, 0, [], m5, f5, Nat.zero_le _, rfl, rfl, P8, EQ.nil _ _, HF0⟩
        case round =>
          obtain ⟨m, ua, un, uc, ac2, lm, em, hm, rfl, HB, HP2, HQ2, HJ2⟩ := hrel
          have EC : Hid (Calls Try.prog 39 #[.pointer (some ⟨g, 0, none⟩)] wr _) := rerr_rt _ _ _ _ _ HP2.out.rs.st
          have HBl : Hid (ac2.length ≤ 1000) := by have := HB.out; have := HMb.out; show _ ≤ _; omega
          clear P8 HF0
          by_cases hlt2 : m < M
          · have hml : (m : Int) < (M : Int) := by omega
            by_cases h0 : em = 0
            · subst h0
              go_wp2_with fail
              refine EC.out.mono ?_
              rintro x wz ⟨rfl, hwz⟩
              have hwz2 := hwz.symm
              subst hwz2
              clear hwz EC
              have HTX := rtext_rt wr.drew g h lm 0 4096 ((HP2.out.below (Below.refl _ wr).drew).rs.st)
              generalize hTX : sText 4096 lm 0 = TX at HTX
              obtain ⟨Y, lx, ex⟩ := TX
              dsimp only at HTX
              have HTC : Hid (Calls Try.prog 37 #[.pointer (some ⟨g, 0, none⟩), .int .i64 4096] wr.drew (Rr wr.drew g h (.string (str Y)) lx ex)) := HTX
              have HNX : Hid (sText 4096 lm 0 = (Y, lx, ex)) := hTX
              have HYs : Hid ((str Y).data.toList = Y) := by show _ = _; simp [str]
              have y4 : wr.cell? ⟨p, 4, none⟩ = some (.slice ua un uc) := HP2.out.wb.cell 4
              have hM120 : (M : Int) ≤ 120 := by have := HMb.out; omega
              obtain ⟨sY, hsY⟩ : ∃ sY, sY = str Y := ⟨_, rfl⟩
              rw [← hsY] at HTC HYs
              clear hsY HTX hTX
              go_wp2_with fail
              go_region_law (first
                | (go_simp; go_at_call 37; refine HTC.out.mono ?_; rintro x w20 ⟨rfl, s20, k20⟩; obtain ⟨cap2, w21, hcv, hh21, hb21⟩ := conv_bytes sY w20; rw [HYs.out] at hh21; obtain ⟨ua', un', uc', w22, HS⟩ := ev_step HP2.out HQ2.out s20 k20 hh21 hb21 (conv_lt hcv) HBl.out; have HSS : Hid (EvS _ _ _ _ _ _ _ _ _ _ _ _ _ _ _ _ _ _ _ _ _ _ _ _) := HS; have hr := HS.run; have a2 := HS.c2; have a3 := HS.c3; have a4 := HS.c4; have a5 := HS.c5; have a6 := HS.frz; clear HS s20 k20 hh21 hb21; generalize sY.size = zY at hcv hr HSS a4)
                | (refine step_app_run rfl (.tmp 61) (.tmp 65) 40 rfl (.slice ua un uc) (.slice (some ⟨w21.heap.size, 0, none⟩) 1 1) rfl rfl (by with_reducible assumption) ?_))
              all_goals go_wp2_with fail
              all_goals exact ⟨⟨m + 1, ua', un', uc', ac2 ++ [Y], _, _, hlt2, by rw [Int.natCast_add]; rfl, (by show _ = _; rw [List.length_append, HB.out]; rfl), HSS.out.mid, HSS.out.ev, HJ2.out.moreE hlt2 HNX.out⟩, by simp only [intOf]; omega⟩
            · have d0 : (em == 0) = false := by simpa using h0
              have HJE : Hid ((El, Er) = (lm, em) ∧ (em = 0 → Ee = ac2)) := HJ2.out.err h0 rdE_bad
              clear h0 hml
              go_wp2_with fail
              refine EC.out.mono ?_
              rintro x wz ⟨rfl, hwz⟩
              have hwz2 := hwz.symm
              subst hwz2
              clear hwz EC
              go_upto_region 18 with fail
              obtain ⟨wa', wn', wc', w30, HS⟩ := wr_step (t := ⟨br, fk, kp, ta, ac2⟩) HP2.out HQ2.out HBl.out HR.out HAl.out
              have HSS : Hid (WrS _ _ _ _ _ _ _ _ _ _ _ _ _ _ _ _ _ _ _ _ _ _ _ _) := HS
              have hr := HS.run
              have a5 := HS.c5
              have a6 := HS.frz
              have y3 : wr.cell? ⟨q, 3, none⟩ = some (.slice wa wn wc) := HP2.out.rs.own.cell 3
              have v0 : wr.cell? ⟨p, 0, none⟩ = some (.string br) := HP2.out.wb.cell 0
              have v1 : wr.cell? ⟨p, 1, none⟩ = some (.string fk) := HP2.out.wb.cell 1
              have v2 : wr.cell? ⟨p, 2, none⟩ = some (.int .i64 kp) := HP2.out.wb.cell 2
              have v3 : wr.cell? ⟨p, 3, none⟩ = some (.int .i64 ta) := HP2.out.wb.cell 3
              have v4 : wr.cell? ⟨p, 4, none⟩ = some (.slice ua un uc) := HP2.out.wb.cell 4
              have hN4 : (N : Int) ≤ 4 := by have := HN.out; omega
              clear HS
              dsimp only at hr
              go_wp2_with (at_builtin; refine Lib.wpList_append_run _ rfl _ _ 23 23 rfl _ _ rfl rfl _ _ (hr _) ?_)
              exact ⟨⟨j + 1, wa', wn', wc', acc ++ [(⟨br, fk, kp, ta, ac2⟩ : Wt)], lm, em, hlt, by rw [Int.natCast_add]; rfl, (by show _ = _; rw [List.length_append, HA.out]; rfl), HSS.out.rs, HSS.out.ri, HJ.out.moreW hlt (by rw [HW.out]; exact HJE.out.1) (fun he => by rw [HW.out, HJE.out.2 he])⟩, by simp only [intOf]; omega⟩
          · obtain rfl : m = M := by omega
            have HJE : Hid ((El, Er) = (lm, em) ∧ (em = 0 → Ee = ac2)) := HJ2.out.done (fun _ _ => rfl)
            clear EC
            go_upto_region 18 with fail
            obtain ⟨wa', wn', wc', w30, HS⟩ := wr_step (t := ⟨br, fk, kp, ta, ac2⟩) HP2.out HQ2.out HBl.out HR.out HAl.out
            have HSS : Hid (WrS _ _ _ _ _ _ _ _ _ _ _ _ _ _ _ _ _ _ _ _ _ _ _ _) := HS
            have hr := HS.run
            have a5 := HS.c5
            have a6 := HS.frz
            have y3 : wr.cell? ⟨q, 3, none⟩ = some (.slice wa wn wc) := HP2.out.rs.own.cell 3
            have v0 : wr.cell? ⟨p, 0, none⟩ = some (.string br) := HP2.out.wb.cell 0
            have v1 : wr.cell? ⟨p, 1, none⟩ = some (.string fk) := HP2.out.wb.cell 1
            have v2 : wr.cell? ⟨p, 2, none⟩ = some (.int .i64 kp) := HP2.out.wb.cell 2
            have v3 : wr.cell? ⟨p, 3, none⟩ = some (.int .i64 ta) := HP2.out.wb.cell 3
            have v4 : wr.cell? ⟨p, 4, none⟩ = some (.slice ua un uc) := HP2.out.wb.cell 4
            have hN4 : (N : Int) ≤ 4 := by have := HN.out; omega
            clear HS
            dsimp only at hr
            go_wp2_with (at_builtin; refine Lib.wpList_append_run _ rfl _ _ 23 23 rfl _ _ rfl rfl _ _ (hr _) ?_)
            exact ⟨⟨j + 1, wa', wn', wc', acc ++ [(⟨br, fk, kp, ta, ac2⟩ : Wt)], lm, em, hlt, by rw [Int.natCast_add]; rfl, (by show _ = _; rw [List.length_append, HA.out]; rfl), HSS.out.rs, HSS.out.ri, HJ.out.moreW hlt (by rw [HW.out]; exact HJE.out.1) (fun he => by rw [HW.out, HJE.out.2 he])⟩, by simp only [intOf]; omega⟩
      · have d0 : (ej == 0) = false := by simpa using h0
        have HJD : Hid ((Rl, Re) = (lj, ej) ∧ (ej = 0 → Rw = acc)) := HJ.out.err h0 rdWs_bad
        clear h0 hjl
        go_wp2_with fail
        refine EC.out.mono ?_
        rintro x wz ⟨rfl, hwz⟩
        have hwz2 := hwz.symm
        subst hwz2
        clear hwz EC
        go_upto_region 19 with fail
        have EC2 : Hid (Calls Try.prog 40 #[.pointer (some ⟨g, 0, none⟩)] wr _) := rend_rt wr g h lj ej HM.out.st
        have CC : Hid (Calls Try.prog 13 #[.agg #[.string K1, .int .i64 n2, .slice (some ⟨rb, 0, none⟩) z cap, .slice wa wn wc]] wr _) := rcheck_calls _ ⟨K1, n2, X3, acc⟩ wr (HR.out.is HAl.out)
        have HIS : Hid (∀ W2', KB w.heap.size wr W2' → BIs W2' (.agg #[.string K1, .int .i64 n2, .slice (some ⟨rb, 0, none⟩) z cap, .slice wa wn wc]) ⟨K1, n2, X3, acc⟩) := fun W2' k => (HR.out.keep k.2.2.2.1 (fun B h1 h2 => k.2.2.2.2 B h2 (by have := HM.out.gr; have := HM.out.gq; omega))).is HAl.out
        have HD2 : Hid (DL = if en lj ej = 0 then (if mayB ⟨K1, n2, X3, acc⟩ = true then (⟨K1, n2, X3, acc⟩, 0) else (zB, 3)) else (zB, en lj ej)) := by
          have h1 := HD.out
          obtain ⟨h2, h3⟩ := HJD.out
          injection h2 with h2a h2b
          subst h2a h2b
          show _ = _
          by_cases he : en Rl Re = 0
          · rw [h3 (en_zero he).2] at h1
            exact h1
          · rw [if_neg he] at h1 ⊢
            exact h1
        have B3 : Hid (Bk wr w.heap.size #[.string ⟨#[]⟩, .int .i64 0, .slice none 0 0, .slice none 0 0] 25) := HM.out.res
        have U3 : Hid (Below w.heap.size w wr) := HM.out.bl
        have Q3 : Hid (Bk wr q #[.string K1, .int .i64 n2, .slice (some ⟨rb, 0, none⟩) z cap, .slice wa wn wc] 25) := HM.out.own
        clear HD HJD HJ HR HA HAl
        obtain ⟨E, hE⟩ : ∃ E, E = en lj ej := ⟨_, rfl⟩
        rw [← hE] at EC2 HD2
        clear hE HM
        go_wp2_with fail
        refine EC2.out.mono ?_
        rintro x w4 ⟨rfl, hw4⟩
        have hw4' := hw4.symm
        subst hw4'
        clear hw4 EC2
        have d0 : wr.cell? ⟨w.heap.size, 0, none⟩ = some (Value.string ⟨#[]⟩) := B3.out.cell 0
        have d1 : wr.cell? ⟨w.heap.size, 1, none⟩ = some (Value.int .i64 0) := B3.out.cell 1
        have d2 : wr.cell? ⟨w.heap.size, 2, none⟩ = some (Value.slice none 0 0) := B3.out.cell 2
        have d3 : wr.cell? ⟨w.heap.size, 3, none⟩ = some (Value.slice none 0 0) := B3.out.cell 3
        have f0 := B3.out.frozen 0
        have f1 := B3.out.frozen 1
        have f2 := B3.out.frozen 2
        have f3 := B3.out.frozen 3
        by_cases h0 : E = 0
        · subst h0
          have c0 : wr.cell? ⟨q, 0, none⟩ = some (Value.string K1) := Q3.out.cell 0
          have c1 : wr.cell? ⟨q, 1, none⟩ = some (Value.int .i64 n2) := Q3.out.cell 1
          have c2 : wr.cell? ⟨q, 2, none⟩ = some (Value.slice (some ⟨rb, 0, none⟩) z cap) := Q3.out.cell 2
          have c3 : wr.cell? ⟨q, 3, none⟩ = some (Value.slice wa wn wc) := Q3.out.cell 3
          have HCK : Hid (ckE ⟨K1, n2, X3, acc⟩ = if mayB ⟨K1, n2, X3, acc⟩ = true then 0 else 1) := rfl
          generalize ckE ⟨K1, n2, X3, acc⟩ = K at CC HCK
          go_wp2_with fail
          refine CC.out.mono ?_
          rintro x w5 ⟨rfl, hb5⟩
          have B5 : Hid (Bk w5 w.heap.size #[.string ⟨#[]⟩, .int .i64 0, .slice none 0 0, .slice none 0 0] 25) := B3.out.below hb5
          have Q5 : Hid (Bk w5 q #[.string K1, .int .i64 n2, .slice (some ⟨rb, 0, none⟩) z cap, .slice wa wn wc] 25) := Q3.out.below hb5
          have U5 : Hid (Below w.heap.size w w5) := bel2 U3.out hb5
          have KB5 : Hid (KB w.heap.size wr w5) := KB.of_below hb5
          clear c0 c1 c2 c3 d0 d1 d2 d3 f0 f1 f2 f3 hb5 CC
          have d0 : w5.cell? ⟨w.heap.size, 0, none⟩ = some (Value.string ⟨#[]⟩) := B5.out.cell 0
          have d1 : w5.cell? ⟨w.heap.size, 1, none⟩ = some (Value.int .i64 0) := B5.out.cell 1
          have d2 : w5.cell? ⟨w.heap.size, 2, none⟩ = some (Value.slice none 0 0) := B5.out.cell 2
          have d3 : w5.cell? ⟨w.heap.size, 3, none⟩ = some (Value.slice none 0 0) := B5.out.cell 3
          have f0 := B5.out.frozen 0
          have f1 := B5.out.frozen 1
          have f2 := B5.out.frozen 2
          have f3 := B5.out.frozen 3
          by_cases hm : mayB ⟨K1, n2, X3, acc⟩ = true
          · have hD2 : DL = (⟨K1, n2, X3, acc⟩, 0) := by have := HD2.out; simpa [hm] using this
            obtain rfl : K = 0 := by rw [HCK.out, if_pos hm]
            subst hD2
            have c0 : w5.cell? ⟨q, 0, none⟩ = some (Value.string K1) := Q5.out.cell 0
            have c1 : w5.cell? ⟨q, 1, none⟩ = some (Value.int .i64 n2) := Q5.out.cell 1
            have c2 : w5.cell? ⟨q, 2, none⟩ = some (Value.slice (some ⟨rb, 0, none⟩) z cap) := Q5.out.cell 2
            have c3 : w5.cell? ⟨q, 3, none⟩ = some (Value.slice wa wn wc) := Q5.out.cell 3
            clear hm
            go_wp2_with fail
            refine bodyPost_ret (ret11 _ (g := w.heap.size) rfl rfl (set4_bk B5.out (.string K1) (.int .i64 n2) (.slice (some ⟨rb, 0, none⟩) z cap) (.slice wa wn wc))) rfl ?_
            exact (HP.out _ _).2 ⟨_, rfl, HIS.out _ (KB5.out.trans (set4_kb w5 w.heap.size _ _ _ _)), U5.out.trans ((set4_kb w5 w.heap.size _ _ _ _).below (Nat.le_refl _) U5.out.size)⟩
          · have hD2 : DL = (zB, 3) := by have := HD2.out; simpa [hm] using this
            obtain rfl : K = 1 := by rw [HCK.out, if_neg hm]
            subst hD2
            clear hm
            go_wp2_with fail
            refine bodyPost_ret (ret11 _ (g := w.heap.size) rfl rfl (set4_bk B5.out (.string ⟨#[]⟩) (.int .i64 0) (.slice none 0 0) (.slice none 0 0))) rfl ?_
            exact (HP.out _ _).2 ⟨_, rfl, zB_is _, U5.out.trans ((set4_kb w5 w.heap.size _ _ _ _).below (Nat.le_refl _) U5.out.size)⟩
        · have hD2 : DL = (zB, E) := by rw [HD2.out, if_neg h0]
          subst hD2
          have dE : (E != 0) = true := by simpa using h0
          clear h0
          go_wp2_with fail
          refine bodyPost_ret (ret11 _ (g := w.heap.size) rfl rfl (set4_bk B3.out (.string ⟨#[]⟩) (.int .i64 0) (.slice none 0 0) (.slice none 0 0))) rfl ?_
          exact (HP.out _ _).2 ⟨_, rfl, zB_is _, U3.out.trans ((set4_kb wr w.heap.size _ _ _ _).below (Nat.le_refl _) U3.out.size)⟩
    · obtain rfl : j = N := by omega
      have HJD : Hid ((Rl, Re) = (lj, ej) ∧ (ej = 0 → Rw = acc)) := HJ.out.done (fun _ _ => rfl)
      clear EC
      go_upto_region 19 with fail
      have EC2 : Hid (Calls Try.prog 40 #[.pointer (some ⟨g, 0, none⟩)] wr _) := rend_rt wr g h lj ej HM.out.st
      have CC : Hid (Calls Try.prog 13 #[.agg #[.string K1, .int .i64 n2, .slice (some ⟨rb, 0, none⟩) z cap, .slice wa wn wc]] wr _) := rcheck_calls _ ⟨K1, n2, X3, acc⟩ wr (HR.out.is HAl.out)
      have HIS : Hid (∀ W2', KB w.heap.size wr W2' → BIs W2' (.agg #[.string K1, .int .i64 n2, .slice (some ⟨rb, 0, none⟩) z cap, .slice wa wn wc]) ⟨K1, n2, X3, acc⟩) := fun W2' k => (HR.out.keep k.2.2.2.1 (fun B h1 h2 => k.2.2.2.2 B h2 (by have := HM.out.gr; have := HM.out.gq; omega))).is HAl.out
      have HD2 : Hid (DL = if en lj ej = 0 then (if mayB ⟨K1, n2, X3, acc⟩ = true then (⟨K1, n2, X3, acc⟩, 0) else (zB, 3)) else (zB, en lj ej)) := by
        have h1 := HD.out
        obtain ⟨h2, h3⟩ := HJD.out
        injection h2 with h2a h2b
        subst h2a h2b
        show _ = _
        by_cases he : en Rl Re = 0
        · rw [h3 (en_zero he).2] at h1
          exact h1
        · rw [if_neg he] at h1 ⊢
          exact h1
      have B3 : Hid (Bk wr w.heap.size #[.string ⟨#[]⟩, .int .i64 0, .slice none 0 0, .slice none 0 0] 25) := HM.out.res
      have U3 : Hid (Below w.heap.size w wr) := HM.out.bl
      have Q3 : Hid (Bk wr q #[.string K1, .int .i64 n2, .slice (some ⟨rb, 0, none⟩) z cap, .slice wa wn wc] 25) := HM.out.own
      clear HD HJD HJ HR HA HAl
      obtain ⟨E, hE⟩ : ∃ E, E = en lj ej := ⟨_, rfl⟩
      rw [← hE] at EC2 HD2
      clear hE HM
      go_wp2_with fail
      refine EC2.out.mono ?_
      rintro x w4 ⟨rfl, hw4⟩
      have hw4' := hw4.symm
      subst hw4'
      clear hw4 EC2
      have d0 : wr.cell? ⟨w.heap.size, 0, none⟩ = some (Value.string ⟨#[]⟩) := B3.out.cell 0
      have d1 : wr.cell? ⟨w.heap.size, 1, none⟩ = some (Value.int .i64 0) := B3.out.cell 1
      have d2 : wr.cell? ⟨w.heap.size, 2, none⟩ = some (Value.slice none 0 0) := B3.out.cell 2
      have d3 : wr.cell? ⟨w.heap.size, 3, none⟩ = some (Value.slice none 0 0) := B3.out.cell 3
      have f0 := B3.out.frozen 0
      have f1 := B3.out.frozen 1
      have f2 := B3.out.frozen 2
      have f3 := B3.out.frozen 3
      by_cases h0 : E = 0
      · subst h0
        have c0 : wr.cell? ⟨q, 0, none⟩ = some (Value.string K1) := Q3.out.cell 0
        have c1 : wr.cell? ⟨q, 1, none⟩ = some (Value.int .i64 n2) := Q3.out.cell 1
        have c2 : wr.cell? ⟨q, 2, none⟩ = some (Value.slice (some ⟨rb, 0, none⟩) z cap) := Q3.out.cell 2
        have c3 : wr.cell? ⟨q, 3, none⟩ = some (Value.slice wa wn wc) := Q3.out.cell 3
        have HCK : Hid (ckE ⟨K1, n2, X3, acc⟩ = if mayB ⟨K1, n2, X3, acc⟩ = true then 0 else 1) := rfl
        generalize ckE ⟨K1, n2, X3, acc⟩ = K at CC HCK
        go_wp2_with fail
        refine CC.out.mono ?_
        rintro x w5 ⟨rfl, hb5⟩
        have B5 : Hid (Bk w5 w.heap.size #[.string ⟨#[]⟩, .int .i64 0, .slice none 0 0, .slice none 0 0] 25) := B3.out.below hb5
        have Q5 : Hid (Bk w5 q #[.string K1, .int .i64 n2, .slice (some ⟨rb, 0, none⟩) z cap, .slice wa wn wc] 25) := Q3.out.below hb5
        have U5 : Hid (Below w.heap.size w w5) := bel2 U3.out hb5
        have KB5 : Hid (KB w.heap.size wr w5) := KB.of_below hb5
        clear c0 c1 c2 c3 d0 d1 d2 d3 f0 f1 f2 f3 hb5 CC
        have d0 : w5.cell? ⟨w.heap.size, 0, none⟩ = some (Value.string ⟨#[]⟩) := B5.out.cell 0
        have d1 : w5.cell? ⟨w.heap.size, 1, none⟩ = some (Value.int .i64 0) := B5.out.cell 1
        have d2 : w5.cell? ⟨w.heap.size, 2, none⟩ = some (Value.slice none 0 0) := B5.out.cell 2
        have d3 : w5.cell? ⟨w.heap.size, 3, none⟩ = some (Value.slice none 0 0) := B5.out.cell 3
        have f0 := B5.out.frozen 0
        have f1 := B5.out.frozen 1
        have f2 := B5.out.frozen 2
        have f3 := B5.out.frozen 3
        by_cases hm : mayB ⟨K1, n2, X3, acc⟩ = true
        · have hD2 : DL = (⟨K1, n2, X3, acc⟩, 0) := by have := HD2.out; simpa [hm] using this
          obtain rfl : K = 0 := by rw [HCK.out, if_pos hm]
          subst hD2
          have c0 : w5.cell? ⟨q, 0, none⟩ = some (Value.string K1) := Q5.out.cell 0
          have c1 : w5.cell? ⟨q, 1, none⟩ = some (Value.int .i64 n2) := Q5.out.cell 1
          have c2 : w5.cell? ⟨q, 2, none⟩ = some (Value.slice (some ⟨rb, 0, none⟩) z cap) := Q5.out.cell 2
          have c3 : w5.cell? ⟨q, 3, none⟩ = some (Value.slice wa wn wc) := Q5.out.cell 3
          clear hm
          go_wp2_with fail
          refine bodyPost_ret (ret11 _ (g := w.heap.size) rfl rfl (set4_bk B5.out (.string K1) (.int .i64 n2) (.slice (some ⟨rb, 0, none⟩) z cap) (.slice wa wn wc))) rfl ?_
          exact (HP.out _ _).2 ⟨_, rfl, HIS.out _ (KB5.out.trans (set4_kb w5 w.heap.size _ _ _ _)), U5.out.trans ((set4_kb w5 w.heap.size _ _ _ _).below (Nat.le_refl _) U5.out.size)⟩
        · have hD2 : DL = (zB, 3) := by have := HD2.out; simpa [hm] using this
          obtain rfl : K = 1 := by rw [HCK.out, if_neg hm]
          subst hD2
          clear hm
          go_wp2_with fail
          refine bodyPost_ret (ret11 _ (g := w.heap.size) rfl rfl (set4_bk B5.out (.string ⟨#[]⟩) (.int .i64 0) (.slice none 0 0) (.slice none 0 0))) rfl ?_
          exact (HP.out _ _).2 ⟨_, rfl, zB_is _, U5.out.trans ((set4_kb w5 w.heap.size _ _ _ _).below (Nat.le_refl _) U5.out.size)⟩
      · have hD2 : DL = (zB, E) := by rw [HD2.out, if_neg h0]
        subst hD2
        have dE : (E != 0) = true := by simpa using h0
        clear h0
        go_wp2_with fail
        refine bodyPost_ret (ret11 _ (g := w.heap.size) rfl rfl (set4_bk B3.out (.string ⟨#[]⟩) (.int .i64 0) (.slice none 0 0) (.slice none 0 0))) rfl ?_
        exact (HP.out _ _).2 ⟨_, rfl, zB_is _, U3.out.trans ((set4_kb wr w.heap.size _ _ _ _).below (Nat.le_refl _) U3.out.size)⟩
end Go.Proofs.Ytomkoajhjijplaa
