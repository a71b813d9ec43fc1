/- What change and Step make of a state; what a history comes to; the walk of FoldParts. -/
import Derived.Test.YtghclnpklindgaaUK
import Derived.Test.YtghclnpklindgaaSQ
import Derived.Test.YtghclnpklindgaaVB
import Derived.Laws.StructEq
namespace Go.Proofs.Ytghclnpklindgaa
open Go.ChangeShapes Go.WideShapes Go.ChangeAt Go.RowKit
/-- What an event of kind 1 makes. -/
def ch1 (s : Sta) (x : Ev) : Sta := { s with count := wrap64 (s.count + 1), time := x.t, status := 1, fresh := true, typ := x.s, inp := x.v, dl := x.d, pf := x.f, pc := x.c, pm := x.m }
/-- What an event of kind 2 makes. -/
def ch2 (s : Sta) (x : Ev) : Sta := { s with count := wrap64 (s.count + 1), time := x.t, ts := 1, ta := x.n, td := x.d, te := 0, tn := 0 }
/-- What an event of kind 3 makes. -/
def ch3 (s : Sta) (x : Ev) : Sta := { s with count := wrap64 (s.count + 1), time := x.t, ts := 2, td := x.d, te := wrap64 (s.count + 1), tn := wrap64 (s.count + 1), fresh := false }
/-- What an event of kind 4 makes. -/
def ch4 (s : Sta) (x : Ev) : Sta := { s with count := wrap64 (s.count + 1), time := x.t, ts := 0, ta := 0, td := 0, te := 0, tn := 0 }
/-- What an event of kind 5 makes. -/
def ch5 (s : Sta) (x : Ev) : Sta := { s with count := wrap64 (s.count + 1), time := x.t, ts := 0, ta := 0, td := 0, te := 0, tn := 0, fr := x.n }
/-- What an event of kind 7 makes. -/
def ch7 (s : Sta) (x : Ev) : Sta := { s with count := wrap64 (s.count + 1), time := x.t, sig := wrap64 (s.sig + 1), fresh := true }
/-- What an event of kind 8 makes. -/
def ch8 (s : Sta) (x : Ev) : Sta := { s with count := wrap64 (s.count + 1), time := x.t, cancel := true, fresh := true }
/-- What an event of kind 9 makes. -/
def ch9 (s : Sta) (x : Ev) : Sta := { s with count := wrap64 (s.count + 1), time := x.t, tm := insL (fun d => gtS d.s x.s) s.tm ⟨x.s, x.d⟩ }
/-- What an event of kind 10 makes. -/
def ch10 (s : Sta) (x : Ev) : Sta := { s with count := wrap64 (s.count + 1), time := x.t, tm := delL s.tm (tmAt s x.s).toNat, fresh := true }
/-- What an event of kind 11 makes. -/
def ch11 (s : Sta) (x : Ev) : Sta := { s with count := wrap64 (s.count + 1), time := x.t, tm := delL s.tm (tmAt s x.s).toNat }
/-- What an event of kind 12 makes. -/
def ch12 (s : Sta) (x : Ev) : Sta := { s with count := wrap64 (s.count + 1), time := x.t, up := insL (fun d => gtS d.s x.s) s.up ⟨x.s, x.v, 1, zE⟩ }
/-- What an event of kind 13 makes. -/
def ch13 (s : Sta) (x : Ev) : Sta := { s with count := wrap64 (s.count + 1), time := x.t, up := s.up.modify (waAt s x.s).toNat (fun u => { u with g := 2, o := x.v }) }
/-- What an event of kind 14 makes. -/
def ch14 (s : Sta) (x : Ev) : Sta := { s with count := wrap64 (s.count + 1), time := x.t }
/-- What an event of kind 15 makes. -/
def ch15 (s : Sta) (x : Ev) : Sta := { s with count := wrap64 (s.count + 1), time := x.t, ts := 0, ta := 0, td := 0, te := 0, tn := 0, tm := [], status := 2, res := x.v }
/-- What an event of kind 16 makes. -/
def ch16 (s : Sta) (x : Ev) : Sta := { s with count := wrap64 (s.count + 1), time := x.t, ts := 0, ta := 0, td := 0, te := 0, tn := 0, tm := [], status := 3, rea := x.s }
/-- What an event of kind 17 makes. -/
def ch17 (s : Sta) (x : Ev) : Sta := { s with count := wrap64 (s.count + 1), time := x.t, ts := 0, ta := 0, td := 0, te := 0, tn := 0, tm := [], status := 4 }
/-- What an event of kind 18 makes. -/
def ch18 (s : Sta) (x : Ev) : Sta := { s with count := wrap64 (s.count + 1), time := x.t, ts := 0, ta := 0, td := 0, te := 0, tn := 0, tm := [], status := 5, rea := x.s }
/-- What an event of kind 19 makes. -/
def ch19 (s : Sta) (x : Ev) : Sta := { s with count := wrap64 (s.count + 1), time := x.t, ts := 0, ta := 0, td := 0, te := 0, tn := 0, tm := [], status := 6 }
/-- What an event makes of a state. -/
def chg (s : Sta) (x : Ev) : Sta :=
  if x.k = 1 then ch1 s x else if x.k = 2 then ch2 s x else if x.k = 3 then ch3 s x else if x.k = 4 ∨ x.k = 5 ∨ x.k = 6 then (if 0 < x.n then ch5 s x else ch4 s x) else if x.k = 7 then ch7 s x else if x.k = 8 then ch8 s x
  else if x.k = 9 then ch9 s x else if x.k = 10 then ch10 s x else if x.k = 11 then ch11 s x else if x.k = 12 then ch12 s x else if x.k = 13 then ch13 s x else if x.k = 15 then ch15 s x else if x.k = 16 then ch16 s x
  else if x.k = 17 then ch17 s x else if x.k = 18 then ch18 s x else if x.k = 19 then ch19 s x else ch14 s x
theorem chg_from (s : Sta) (x : Ev) (h : x.k = 4 ∨ x.k = 5 ∨ x.k = 6) : chg s x = if 0 < x.n then ch5 s x else ch4 s x := by
  unfold chg
  rw [if_neg (by omega), if_neg (by omega), if_neg (by omega), if_pos h]
theorem chg_1 (s : Sta) (x : Ev) (h : x.k = 1) : chg s x = ch1 s x := by simp [chg, h]
theorem chg_2 (s : Sta) (x : Ev) (h : x.k = 2) : chg s x = ch2 s x := by simp [chg, h]
theorem chg_3 (s : Sta) (x : Ev) (h : x.k = 3) : chg s x = ch3 s x := by simp [chg, h]
theorem chg_7 (s : Sta) (x : Ev) (h : x.k = 7) : chg s x = ch7 s x := by simp [chg, h]
theorem chg_8 (s : Sta) (x : Ev) (h : x.k = 8) : chg s x = ch8 s x := by simp [chg, h]
theorem chg_9 (s : Sta) (x : Ev) (h : x.k = 9) : chg s x = ch9 s x := by simp [chg, h]
theorem chg_10 (s : Sta) (x : Ev) (h : x.k = 10) : chg s x = ch10 s x := by simp [chg, h]
theorem chg_11 (s : Sta) (x : Ev) (h : x.k = 11) : chg s x = ch11 s x := by simp [chg, h]
theorem chg_12 (s : Sta) (x : Ev) (h : x.k = 12) : chg s x = ch12 s x := by simp [chg, h]
theorem chg_13 (s : Sta) (x : Ev) (h : x.k = 13) : chg s x = ch13 s x := by simp [chg, h]
theorem chg_14 (s : Sta) (x : Ev) (h : x.k = 14) : chg s x = ch14 s x := by simp [chg, h]
theorem chg_15 (s : Sta) (x : Ev) (h : x.k = 15) : chg s x = ch15 s x := by simp [chg, h]
theorem chg_16 (s : Sta) (x : Ev) (h : x.k = 16) : chg s x = ch16 s x := by simp [chg, h]
theorem chg_17 (s : Sta) (x : Ev) (h : x.k = 17) : chg s x = ch17 s x := by simp [chg, h]
theorem chg_18 (s : Sta) (x : Ev) (h : x.k = 18) : chg s x = ch18 s x := by simp [chg, h]
theorem chg_19 (s : Sta) (x : Ev) (h : x.k = 19) : chg s x = ch19 s x := by simp [chg, h]
theorem ig1 {R R' : Value → Tv → Prop} {cs : Array Value} {s : Sta} (x : Ev) {k0 x0 b0 : Int} {s0 : ByteArray} {a0 : Option Addr} {m0 n0 : Nat} (hv : R' (.agg #[.int .i64 k0, .int .i64 x0, .int .u64 b0, .string s0, .slice a0 m0 n0]) x.v) (h : Ig R cs s) (hR : ∀ v t, R v t → R' v t) : Ig R' (puts cs [(2, .int .i64 (wrap64 (s.count + 1))), (3, .int .i64 x.t), (1, .int .i64 1), (21, .bool true), (7, .string x.s), (8, .int .i64 k0), (9, .int .i64 x0), (10, .int .u64 b0), (11, .string s0), (12, .slice a0 m0 n0), (4, .int .i64 x.d), (13, .int .i64 x.f), (14, .int .u64 (x.c : Int)), (15, .int .i64 x.m)]) (ch1 s x) :=
  { size := by rw [puts_size]; exact h.size, c0 := (puts_ne (by simp)).trans h.c0, c1 := by simp [puts, ch1, h.size], c2 := by simp [puts, ch1, h.size], c3 := by simp [puts, ch1, h.size], c4 := by simp [puts, ch1, h.size], c5 := (puts_ne (by simp)).trans h.c5, c6 := (puts_ne (by simp)).trans h.c6, c7 := by simp [puts, ch1, h.size], c13 := by simp [puts, ch1, h.size], c14 := by simp [puts, ch1, h.size], c15 := by simp [puts, ch1, h.size], c16 := (puts_ne (by simp)).trans h.c16, c17 := (puts_ne (by simp)).trans h.c17, c18 := (puts_ne (by simp)).trans h.c18, c19 := (puts_ne (by simp)).trans h.c19, c20 := (puts_ne (by simp)).trans h.c20, c21 := by simp [puts, ch1, h.size], c22 := (puts_ne (by simp)).trans h.c22, c30 := (puts_ne (by simp)).trans h.c30, inp := ⟨k0, x0, b0, s0, a0, m0, n0, by simp [puts, h.size], by simp [puts, h.size], by simp [puts, h.size], by simp [puts, h.size], by simp [puts, h.size], hv⟩, res := (h.res.map fun v => hR v _).other fun q h1 h2 => puts_ne (by simp; omega) }
theorem ig2 {R R' : Value → Tv → Prop} {cs : Array Value} {s : Sta} (x : Ev) (h : Ig R cs s) (hR : ∀ v t, R v t → R' v t) : Ig R' (puts cs [(2, .int .i64 (wrap64 (s.count + 1))), (3, .int .i64 x.t), (16, .int .i64 1), (17, .int .i64 x.n), (18, .int .i64 x.d), (19, .int .i64 0), (20, .int .i64 0)]) (ch2 s x) :=
  { size := by rw [puts_size]; exact h.size, c0 := (puts_ne (by simp)).trans h.c0, c1 := (puts_ne (by simp)).trans h.c1, c2 := by simp [puts, ch2, h.size], c3 := by simp [puts, ch2, h.size], c4 := (puts_ne (by simp)).trans h.c4, c5 := (puts_ne (by simp)).trans h.c5, c6 := (puts_ne (by simp)).trans h.c6, c7 := (puts_ne (by simp)).trans h.c7, c13 := (puts_ne (by simp)).trans h.c13, c14 := (puts_ne (by simp)).trans h.c14, c15 := (puts_ne (by simp)).trans h.c15, c16 := by simp [puts, ch2, h.size], c17 := by simp [puts, ch2, h.size], c18 := by simp [puts, ch2, h.size], c19 := by simp [puts, ch2, h.size], c20 := by simp [puts, ch2, h.size], c21 := (puts_ne (by simp)).trans h.c21, c22 := (puts_ne (by simp)).trans h.c22, c30 := (puts_ne (by simp)).trans h.c30, inp := (h.inp.map fun v => hR v _).other fun q h1 h2 => puts_ne (by simp; omega), res := (h.res.map fun v => hR v _).other fun q h1 h2 => puts_ne (by simp; omega) }
theorem ig3 {R R' : Value → Tv → Prop} {cs : Array Value} {s : Sta} (x : Ev) (h : Ig R cs s) (hR : ∀ v t, R v t → R' v t) : Ig R' (puts cs [(2, .int .i64 (wrap64 (s.count + 1))), (3, .int .i64 x.t), (16, .int .i64 2), (17, .int .i64 s.ta), (18, .int .i64 x.d), (19, .int .i64 (wrap64 (s.count + 1))), (20, .int .i64 (wrap64 (s.count + 1))), (21, .bool false)]) (ch3 s x) :=
  { size := by rw [puts_size]; exact h.size, c0 := (puts_ne (by simp)).trans h.c0, c1 := (puts_ne (by simp)).trans h.c1, c2 := by simp [puts, ch3, h.size], c3 := by simp [puts, ch3, h.size], c4 := (puts_ne (by simp)).trans h.c4, c5 := (puts_ne (by simp)).trans h.c5, c6 := (puts_ne (by simp)).trans h.c6, c7 := (puts_ne (by simp)).trans h.c7, c13 := (puts_ne (by simp)).trans h.c13, c14 := (puts_ne (by simp)).trans h.c14, c15 := (puts_ne (by simp)).trans h.c15, c16 := by simp [puts, ch3, h.size], c17 := by simp [puts, ch3, h.size], c18 := by simp [puts, ch3, h.size], c19 := by simp [puts, ch3, h.size], c20 := by simp [puts, ch3, h.size], c21 := by simp [puts, ch3, h.size], c22 := (puts_ne (by simp)).trans h.c22, c30 := (puts_ne (by simp)).trans h.c30, inp := (h.inp.map fun v => hR v _).other fun q h1 h2 => puts_ne (by simp; omega), res := (h.res.map fun v => hR v _).other fun q h1 h2 => puts_ne (by simp; omega) }
theorem ig4 {R R' : Value → Tv → Prop} {cs : Array Value} {s : Sta} (x : Ev) (h : Ig R cs s) (hR : ∀ v t, R v t → R' v t) : Ig R' (puts cs [(2, .int .i64 (wrap64 (s.count + 1))), (3, .int .i64 x.t), (16, .int .i64 0), (17, .int .i64 0), (18, .int .i64 0), (19, .int .i64 0), (20, .int .i64 0)]) (ch4 s x) :=
  { size := by rw [puts_size]; exact h.size, c0 := (puts_ne (by simp)).trans h.c0, c1 := (puts_ne (by simp)).trans h.c1, c2 := by simp [puts, ch4, h.size], c3 := by simp [puts, ch4, h.size], c4 := (puts_ne (by simp)).trans h.c4, c5 := (puts_ne (by simp)).trans h.c5, c6 := (puts_ne (by simp)).trans h.c6, c7 := (puts_ne (by simp)).trans h.c7, c13 := (puts_ne (by simp)).trans h.c13, c14 := (puts_ne (by simp)).trans h.c14, c15 := (puts_ne (by simp)).trans h.c15, c16 := by simp [puts, ch4, h.size], c17 := by simp [puts, ch4, h.size], c18 := by simp [puts, ch4, h.size], c19 := by simp [puts, ch4, h.size], c20 := by simp [puts, ch4, h.size], c21 := (puts_ne (by simp)).trans h.c21, c22 := (puts_ne (by simp)).trans h.c22, c30 := (puts_ne (by simp)).trans h.c30, inp := (h.inp.map fun v => hR v _).other fun q h1 h2 => puts_ne (by simp; omega), res := (h.res.map fun v => hR v _).other fun q h1 h2 => puts_ne (by simp; omega) }
theorem ig5 {R R' : Value → Tv → Prop} {cs : Array Value} {s : Sta} (x : Ev) (h : Ig R cs s) (hR : ∀ v t, R v t → R' v t) : Ig R' (puts cs [(2, .int .i64 (wrap64 (s.count + 1))), (3, .int .i64 x.t), (16, .int .i64 0), (17, .int .i64 0), (18, .int .i64 0), (19, .int .i64 0), (20, .int .i64 0), (5, .int .i64 x.n)]) (ch5 s x) :=
  { size := by rw [puts_size]; exact h.size, c0 := (puts_ne (by simp)).trans h.c0, c1 := (puts_ne (by simp)).trans h.c1, c2 := by simp [puts, ch5, h.size], c3 := by simp [puts, ch5, h.size], c4 := (puts_ne (by simp)).trans h.c4, c5 := by simp [puts, ch5, h.size], c6 := (puts_ne (by simp)).trans h.c6, c7 := (puts_ne (by simp)).trans h.c7, c13 := (puts_ne (by simp)).trans h.c13, c14 := (puts_ne (by simp)).trans h.c14, c15 := (puts_ne (by simp)).trans h.c15, c16 := by simp [puts, ch5, h.size], c17 := by simp [puts, ch5, h.size], c18 := by simp [puts, ch5, h.size], c19 := by simp [puts, ch5, h.size], c20 := by simp [puts, ch5, h.size], c21 := (puts_ne (by simp)).trans h.c21, c22 := (puts_ne (by simp)).trans h.c22, c30 := (puts_ne (by simp)).trans h.c30, inp := (h.inp.map fun v => hR v _).other fun q h1 h2 => puts_ne (by simp; omega), res := (h.res.map fun v => hR v _).other fun q h1 h2 => puts_ne (by simp; omega) }
theorem ig7 {R R' : Value → Tv → Prop} {cs : Array Value} {s : Sta} (x : Ev) (h : Ig R cs s) (hR : ∀ v t, R v t → R' v t) : Ig R' (puts cs [(2, .int .i64 (wrap64 (s.count + 1))), (3, .int .i64 x.t), (6, .int .i64 (wrap64 (s.sig + 1))), (21, .bool true)]) (ch7 s x) :=
  { size := by rw [puts_size]; exact h.size, c0 := (puts_ne (by simp)).trans h.c0, c1 := (puts_ne (by simp)).trans h.c1, c2 := by simp [puts, ch7, h.size], c3 := by simp [puts, ch7, h.size], c4 := (puts_ne (by simp)).trans h.c4, c5 := (puts_ne (by simp)).trans h.c5, c6 := by simp [puts, ch7, h.size], c7 := (puts_ne (by simp)).trans h.c7, c13 := (puts_ne (by simp)).trans h.c13, c14 := (puts_ne (by simp)).trans h.c14, c15 := (puts_ne (by simp)).trans h.c15, c16 := (puts_ne (by simp)).trans h.c16, c17 := (puts_ne (by simp)).trans h.c17, c18 := (puts_ne (by simp)).trans h.c18, c19 := (puts_ne (by simp)).trans h.c19, c20 := (puts_ne (by simp)).trans h.c20, c21 := by simp [puts, ch7, h.size], c22 := (puts_ne (by simp)).trans h.c22, c30 := (puts_ne (by simp)).trans h.c30, inp := (h.inp.map fun v => hR v _).other fun q h1 h2 => puts_ne (by simp; omega), res := (h.res.map fun v => hR v _).other fun q h1 h2 => puts_ne (by simp; omega) }
theorem ig8 {R R' : Value → Tv → Prop} {cs : Array Value} {s : Sta} (x : Ev) (h : Ig R cs s) (hR : ∀ v t, R v t → R' v t) : Ig R' (puts cs [(2, .int .i64 (wrap64 (s.count + 1))), (3, .int .i64 x.t), (22, .bool true), (21, .bool true)]) (ch8 s x) :=
  { size := by rw [puts_size]; exact h.size, c0 := (puts_ne (by simp)).trans h.c0, c1 := (puts_ne (by simp)).trans h.c1, c2 := by simp [puts, ch8, h.size], c3 := by simp [puts, ch8, h.size], c4 := (puts_ne (by simp)).trans h.c4, c5 := (puts_ne (by simp)).trans h.c5, c6 := (puts_ne (by simp)).trans h.c6, c7 := (puts_ne (by simp)).trans h.c7, c13 := (puts_ne (by simp)).trans h.c13, c14 := (puts_ne (by simp)).trans h.c14, c15 := (puts_ne (by simp)).trans h.c15, c16 := (puts_ne (by simp)).trans h.c16, c17 := (puts_ne (by simp)).trans h.c17, c18 := (puts_ne (by simp)).trans h.c18, c19 := (puts_ne (by simp)).trans h.c19, c20 := (puts_ne (by simp)).trans h.c20, c21 := by simp [puts, ch8, h.size], c22 := by simp [puts, ch8, h.size], c30 := (puts_ne (by simp)).trans h.c30, inp := (h.inp.map fun v => hR v _).other fun q h1 h2 => puts_ne (by simp; omega), res := (h.res.map fun v => hR v _).other fun q h1 h2 => puts_ne (by simp; omega) }
theorem ig9 {R R' : Value → Tv → Prop} {cs : Array Value} {s : Sta} (x : Ev) (v : Value) (h : Ig R cs s) (hR : ∀ v t, R v t → R' v t) : Ig R' (puts cs [(2, .int .i64 (wrap64 (s.count + 1))), (3, .int .i64 x.t), (23, v)]) (ch9 s x) :=
  { size := by rw [puts_size]; exact h.size, c0 := (puts_ne (by simp)).trans h.c0, c1 := (puts_ne (by simp)).trans h.c1, c2 := by simp [puts, ch9, h.size], c3 := by simp [puts, ch9, h.size], c4 := (puts_ne (by simp)).trans h.c4, c5 := (puts_ne (by simp)).trans h.c5, c6 := (puts_ne (by simp)).trans h.c6, c7 := (puts_ne (by simp)).trans h.c7, c13 := (puts_ne (by simp)).trans h.c13, c14 := (puts_ne (by simp)).trans h.c14, c15 := (puts_ne (by simp)).trans h.c15, c16 := (puts_ne (by simp)).trans h.c16, c17 := (puts_ne (by simp)).trans h.c17, c18 := (puts_ne (by simp)).trans h.c18, c19 := (puts_ne (by simp)).trans h.c19, c20 := (puts_ne (by simp)).trans h.c20, c21 := (puts_ne (by simp)).trans h.c21, c22 := (puts_ne (by simp)).trans h.c22, c30 := (puts_ne (by simp)).trans h.c30, inp := (h.inp.map fun v => hR v _).other fun q h1 h2 => puts_ne (by simp; omega), res := (h.res.map fun v => hR v _).other fun q h1 h2 => puts_ne (by simp; omega) }
theorem ig10 {R R' : Value → Tv → Prop} {cs : Array Value} {s : Sta} (x : Ev) (v : Value) (h : Ig R cs s) (hR : ∀ v t, R v t → R' v t) : Ig R' (puts cs [(2, .int .i64 (wrap64 (s.count + 1))), (3, .int .i64 x.t), (23, v), (21, .bool true)]) (ch10 s x) :=
  { size := by rw [puts_size]; exact h.size, c0 := (puts_ne (by simp)).trans h.c0, c1 := (puts_ne (by simp)).trans h.c1, c2 := by simp [puts, ch10, h.size], c3 := by simp [puts, ch10, h.size], c4 := (puts_ne (by simp)).trans h.c4, c5 := (puts_ne (by simp)).trans h.c5, c6 := (puts_ne (by simp)).trans h.c6, c7 := (puts_ne (by simp)).trans h.c7, c13 := (puts_ne (by simp)).trans h.c13, c14 := (puts_ne (by simp)).trans h.c14, c15 := (puts_ne (by simp)).trans h.c15, c16 := (puts_ne (by simp)).trans h.c16, c17 := (puts_ne (by simp)).trans h.c17, c18 := (puts_ne (by simp)).trans h.c18, c19 := (puts_ne (by simp)).trans h.c19, c20 := (puts_ne (by simp)).trans h.c20, c21 := by simp [puts, ch10, h.size], c22 := (puts_ne (by simp)).trans h.c22, c30 := (puts_ne (by simp)).trans h.c30, inp := (h.inp.map fun v => hR v _).other fun q h1 h2 => puts_ne (by simp; omega), res := (h.res.map fun v => hR v _).other fun q h1 h2 => puts_ne (by simp; omega) }
theorem ig11 {R R' : Value → Tv → Prop} {cs : Array Value} {s : Sta} (x : Ev) (v : Value) (h : Ig R cs s) (hR : ∀ v t, R v t → R' v t) : Ig R' (puts cs [(2, .int .i64 (wrap64 (s.count + 1))), (3, .int .i64 x.t), (23, v)]) (ch11 s x) :=
  { size := by rw [puts_size]; exact h.size, c0 := (puts_ne (by simp)).trans h.c0, c1 := (puts_ne (by simp)).trans h.c1, c2 := by simp [puts, ch11, h.size], c3 := by simp [puts, ch11, h.size], c4 := (puts_ne (by simp)).trans h.c4, c5 := (puts_ne (by simp)).trans h.c5, c6 := (puts_ne (by simp)).trans h.c6, c7 := (puts_ne (by simp)).trans h.c7, c13 := (puts_ne (by simp)).trans h.c13, c14 := (puts_ne (by simp)).trans h.c14, c15 := (puts_ne (by simp)).trans h.c15, c16 := (puts_ne (by simp)).trans h.c16, c17 := (puts_ne (by simp)).trans h.c17, c18 := (puts_ne (by simp)).trans h.c18, c19 := (puts_ne (by simp)).trans h.c19, c20 := (puts_ne (by simp)).trans h.c20, c21 := (puts_ne (by simp)).trans h.c21, c22 := (puts_ne (by simp)).trans h.c22, c30 := (puts_ne (by simp)).trans h.c30, inp := (h.inp.map fun v => hR v _).other fun q h1 h2 => puts_ne (by simp; omega), res := (h.res.map fun v => hR v _).other fun q h1 h2 => puts_ne (by simp; omega) }
theorem ig12 {R R' : Value → Tv → Prop} {cs : Array Value} {s : Sta} (x : Ev) (v : Value) (h : Ig R cs s) (hR : ∀ v t, R v t → R' v t) : Ig R' (puts cs [(2, .int .i64 (wrap64 (s.count + 1))), (3, .int .i64 x.t), (24, v)]) (ch12 s x) :=
  { size := by rw [puts_size]; exact h.size, c0 := (puts_ne (by simp)).trans h.c0, c1 := (puts_ne (by simp)).trans h.c1, c2 := by simp [puts, ch12, h.size], c3 := by simp [puts, ch12, h.size], c4 := (puts_ne (by simp)).trans h.c4, c5 := (puts_ne (by simp)).trans h.c5, c6 := (puts_ne (by simp)).trans h.c6, c7 := (puts_ne (by simp)).trans h.c7, c13 := (puts_ne (by simp)).trans h.c13, c14 := (puts_ne (by simp)).trans h.c14, c15 := (puts_ne (by simp)).trans h.c15, c16 := (puts_ne (by simp)).trans h.c16, c17 := (puts_ne (by simp)).trans h.c17, c18 := (puts_ne (by simp)).trans h.c18, c19 := (puts_ne (by simp)).trans h.c19, c20 := (puts_ne (by simp)).trans h.c20, c21 := (puts_ne (by simp)).trans h.c21, c22 := (puts_ne (by simp)).trans h.c22, c30 := (puts_ne (by simp)).trans h.c30, inp := (h.inp.map fun v => hR v _).other fun q h1 h2 => puts_ne (by simp; omega), res := (h.res.map fun v => hR v _).other fun q h1 h2 => puts_ne (by simp; omega) }
theorem ig13 {R R' : Value → Tv → Prop} {cs : Array Value} {s : Sta} (x : Ev) (h : Ig R cs s) (hR : ∀ v t, R v t → R' v t) : Ig R' (puts cs [(2, .int .i64 (wrap64 (s.count + 1))), (3, .int .i64 x.t)]) (ch13 s x) :=
  { size := by rw [puts_size]; exact h.size, c0 := (puts_ne (by simp)).trans h.c0, c1 := (puts_ne (by simp)).trans h.c1, c2 := by simp [puts, ch13, h.size], c3 := by simp [puts, ch13, h.size], c4 := (puts_ne (by simp)).trans h.c4, c5 := (puts_ne (by simp)).trans h.c5, c6 := (puts_ne (by simp)).trans h.c6, c7 := (puts_ne (by simp)).trans h.c7, c13 := (puts_ne (by simp)).trans h.c13, c14 := (puts_ne (by simp)).trans h.c14, c15 := (puts_ne (by simp)).trans h.c15, c16 := (puts_ne (by simp)).trans h.c16, c17 := (puts_ne (by simp)).trans h.c17, c18 := (puts_ne (by simp)).trans h.c18, c19 := (puts_ne (by simp)).trans h.c19, c20 := (puts_ne (by simp)).trans h.c20, c21 := (puts_ne (by simp)).trans h.c21, c22 := (puts_ne (by simp)).trans h.c22, c30 := (puts_ne (by simp)).trans h.c30, inp := (h.inp.map fun v => hR v _).other fun q h1 h2 => puts_ne (by simp; omega), res := (h.res.map fun v => hR v _).other fun q h1 h2 => puts_ne (by simp; omega) }
theorem ig14 {R R' : Value → Tv → Prop} {cs : Array Value} {s : Sta} (x : Ev) (h : Ig R cs s) (hR : ∀ v t, R v t → R' v t) : Ig R' (puts cs [(2, .int .i64 (wrap64 (s.count + 1))), (3, .int .i64 x.t)]) (ch14 s x) :=
  { size := by rw [puts_size]; exact h.size, c0 := (puts_ne (by simp)).trans h.c0, c1 := (puts_ne (by simp)).trans h.c1, c2 := by simp [puts, ch14, h.size], c3 := by simp [puts, ch14, h.size], c4 := (puts_ne (by simp)).trans h.c4, c5 := (puts_ne (by simp)).trans h.c5, c6 := (puts_ne (by simp)).trans h.c6, c7 := (puts_ne (by simp)).trans h.c7, c13 := (puts_ne (by simp)).trans h.c13, c14 := (puts_ne (by simp)).trans h.c14, c15 := (puts_ne (by simp)).trans h.c15, c16 := (puts_ne (by simp)).trans h.c16, c17 := (puts_ne (by simp)).trans h.c17, c18 := (puts_ne (by simp)).trans h.c18, c19 := (puts_ne (by simp)).trans h.c19, c20 := (puts_ne (by simp)).trans h.c20, c21 := (puts_ne (by simp)).trans h.c21, c22 := (puts_ne (by simp)).trans h.c22, c30 := (puts_ne (by simp)).trans h.c30, inp := (h.inp.map fun v => hR v _).other fun q h1 h2 => puts_ne (by simp; omega), res := (h.res.map fun v => hR v _).other fun q h1 h2 => puts_ne (by simp; omega) }
theorem ig15 {R R' : Value → Tv → Prop} {cs : Array Value} {s : Sta} (x : Ev) {k0 x0 b0 : Int} {s0 : ByteArray} {a0 : Option Addr} {m0 n0 : Nat} (hv : R' (.agg #[.int .i64 k0, .int .i64 x0, .int .u64 b0, .string s0, .slice a0 m0 n0]) x.v) (h : Ig R cs s) (hR : ∀ v t, R v t → R' v t) : Ig R' (puts cs [(2, .int .i64 (wrap64 (s.count + 1))), (3, .int .i64 x.t), (16, .int .i64 0), (17, .int .i64 0), (18, .int .i64 0), (19, .int .i64 0), (20, .int .i64 0), (23, .slice none 0 0), (1, .int .i64 2), (25, .int .i64 k0), (26, .int .i64 x0), (27, .int .u64 b0), (28, .string s0), (29, .slice a0 m0 n0)]) (ch15 s x) :=
  { size := by rw [puts_size]; exact h.size, c0 := (puts_ne (by simp)).trans h.c0, c1 := by simp [puts, ch15, h.size], c2 := by simp [puts, ch15, h.size], c3 := by simp [puts, ch15, h.size], c4 := (puts_ne (by simp)).trans h.c4, c5 := (puts_ne (by simp)).trans h.c5, c6 := (puts_ne (by simp)).trans h.c6, c7 := (puts_ne (by simp)).trans h.c7, c13 := (puts_ne (by simp)).trans h.c13, c14 := (puts_ne (by simp)).trans h.c14, c15 := (puts_ne (by simp)).trans h.c15, c16 := by simp [puts, ch15, h.size], c17 := by simp [puts, ch15, h.size], c18 := by simp [puts, ch15, h.size], c19 := by simp [puts, ch15, h.size], c20 := by simp [puts, ch15, h.size], c21 := (puts_ne (by simp)).trans h.c21, c22 := (puts_ne (by simp)).trans h.c22, c30 := (puts_ne (by simp)).trans h.c30, inp := (h.inp.map fun v => hR v _).other fun q h1 h2 => puts_ne (by simp; omega), res := ⟨k0, x0, b0, s0, a0, m0, n0, by simp [puts, h.size], by simp [puts, h.size], by simp [puts, h.size], by simp [puts, h.size], by simp [puts, h.size], hv⟩ }
theorem ig16 {R R' : Value → Tv → Prop} {cs : Array Value} {s : Sta} (x : Ev) (h : Ig R cs s) (hR : ∀ v t, R v t → R' v t) : Ig R' (puts cs [(2, .int .i64 (wrap64 (s.count + 1))), (3, .int .i64 x.t), (16, .int .i64 0), (17, .int .i64 0), (18, .int .i64 0), (19, .int .i64 0), (20, .int .i64 0), (23, .slice none 0 0), (1, .int .i64 3), (30, .string x.s)]) (ch16 s x) :=
  { size := by rw [puts_size]; exact h.size, c0 := (puts_ne (by simp)).trans h.c0, c1 := by simp [puts, ch16, h.size], c2 := by simp [puts, ch16, h.size], c3 := by simp [puts, ch16, h.size], c4 := (puts_ne (by simp)).trans h.c4, c5 := (puts_ne (by simp)).trans h.c5, c6 := (puts_ne (by simp)).trans h.c6, c7 := (puts_ne (by simp)).trans h.c7, c13 := (puts_ne (by simp)).trans h.c13, c14 := (puts_ne (by simp)).trans h.c14, c15 := (puts_ne (by simp)).trans h.c15, c16 := by simp [puts, ch16, h.size], c17 := by simp [puts, ch16, h.size], c18 := by simp [puts, ch16, h.size], c19 := by simp [puts, ch16, h.size], c20 := by simp [puts, ch16, h.size], c21 := (puts_ne (by simp)).trans h.c21, c22 := (puts_ne (by simp)).trans h.c22, c30 := by simp [puts, ch16, h.size], inp := (h.inp.map fun v => hR v _).other fun q h1 h2 => puts_ne (by simp; omega), res := (h.res.map fun v => hR v _).other fun q h1 h2 => puts_ne (by simp; omega) }
theorem ig17 {R R' : Value → Tv → Prop} {cs : Array Value} {s : Sta} (x : Ev) (h : Ig R cs s) (hR : ∀ v t, R v t → R' v t) : Ig R' (puts cs [(2, .int .i64 (wrap64 (s.count + 1))), (3, .int .i64 x.t), (16, .int .i64 0), (17, .int .i64 0), (18, .int .i64 0), (19, .int .i64 0), (20, .int .i64 0), (23, .slice none 0 0), (1, .int .i64 4)]) (ch17 s x) :=
  { size := by rw [puts_size]; exact h.size, c0 := (puts_ne (by simp)).trans h.c0, c1 := by simp [puts, ch17, h.size], c2 := by simp [puts, ch17, h.size], c3 := by simp [puts, ch17, h.size], c4 := (puts_ne (by simp)).trans h.c4, c5 := (puts_ne (by simp)).trans h.c5, c6 := (puts_ne (by simp)).trans h.c6, c7 := (puts_ne (by simp)).trans h.c7, c13 := (puts_ne (by simp)).trans h.c13, c14 := (puts_ne (by simp)).trans h.c14, c15 := (puts_ne (by simp)).trans h.c15, c16 := by simp [puts, ch17, h.size], c17 := by simp [puts, ch17, h.size], c18 := by simp [puts, ch17, h.size], c19 := by simp [puts, ch17, h.size], c20 := by simp [puts, ch17, h.size], c21 := (puts_ne (by simp)).trans h.c21, c22 := (puts_ne (by simp)).trans h.c22, c30 := (puts_ne (by simp)).trans h.c30, inp := (h.inp.map fun v => hR v _).other fun q h1 h2 => puts_ne (by simp; omega), res := (h.res.map fun v => hR v _).other fun q h1 h2 => puts_ne (by simp; omega) }
theorem ig18 {R R' : Value → Tv → Prop} {cs : Array Value} {s : Sta} (x : Ev) (h : Ig R cs s) (hR : ∀ v t, R v t → R' v t) : Ig R' (puts cs [(2, .int .i64 (wrap64 (s.count + 1))), (3, .int .i64 x.t), (16, .int .i64 0), (17, .int .i64 0), (18, .int .i64 0), (19, .int .i64 0), (20, .int .i64 0), (23, .slice none 0 0), (1, .int .i64 5), (30, .string x.s)]) (ch18 s x) :=
  { size := by rw [puts_size]; exact h.size, c0 := (puts_ne (by simp)).trans h.c0, c1 := by simp [puts, ch18, h.size], c2 := by simp [puts, ch18, h.size], c3 := by simp [puts, ch18, h.size], c4 := (puts_ne (by simp)).trans h.c4, c5 := (puts_ne (by simp)).trans h.c5, c6 := (puts_ne (by simp)).trans h.c6, c7 := (puts_ne (by simp)).trans h.c7, c13 := (puts_ne (by simp)).trans h.c13, c14 := (puts_ne (by simp)).trans h.c14, c15 := (puts_ne (by simp)).trans h.c15, c16 := by simp [puts, ch18, h.size], c17 := by simp [puts, ch18, h.size], c18 := by simp [puts, ch18, h.size], c19 := by simp [puts, ch18, h.size], c20 := by simp [puts, ch18, h.size], c21 := (puts_ne (by simp)).trans h.c21, c22 := (puts_ne (by simp)).trans h.c22, c30 := by simp [puts, ch18, h.size], inp := (h.inp.map fun v => hR v _).other fun q h1 h2 => puts_ne (by simp; omega), res := (h.res.map fun v => hR v _).other fun q h1 h2 => puts_ne (by simp; omega) }
theorem ig19 {R R' : Value → Tv → Prop} {cs : Array Value} {s : Sta} (x : Ev) (h : Ig R cs s) (hR : ∀ v t, R v t → R' v t) : Ig R' (puts cs [(2, .int .i64 (wrap64 (s.count + 1))), (3, .int .i64 x.t), (16, .int .i64 0), (17, .int .i64 0), (18, .int .i64 0), (19, .int .i64 0), (20, .int .i64 0), (23, .slice none 0 0), (1, .int .i64 6)]) (ch19 s x) :=
  { size := by rw [puts_size]; exact h.size, c0 := (puts_ne (by simp)).trans h.c0, c1 := by simp [puts, ch19, h.size], c2 := by simp [puts, ch19, h.size], c3 := by simp [puts, ch19, h.size], c4 := (puts_ne (by simp)).trans h.c4, c5 := (puts_ne (by simp)).trans h.c5, c6 := (puts_ne (by simp)).trans h.c6, c7 := (puts_ne (by simp)).trans h.c7, c13 := (puts_ne (by simp)).trans h.c13, c14 := (puts_ne (by simp)).trans h.c14, c15 := (puts_ne (by simp)).trans h.c15, c16 := by simp [puts, ch19, h.size], c17 := by simp [puts, ch19, h.size], c18 := by simp [puts, ch19, h.size], c19 := by simp [puts, ch19, h.size], c20 := by simp [puts, ch19, h.size], c21 := (puts_ne (by simp)).trans h.c21, c22 := (puts_ne (by simp)).trans h.c22, c30 := (puts_ne (by simp)).trans h.c30, inp := (h.inp.map fun v => hR v _).other fun q h1 h2 => puts_ne (by simp; omega), res := (h.res.map fun v => hR v _).other fun q h1 h2 => puts_ne (by simp; omega) }
end Go.Proofs.Ytghclnpklindgaa
namespace Go.Proofs.Ytghclnpklindgaa
open Go.ChangeShapes Go.WideShapes Go.ChangeAt Go.RowKit
theorem vk_to {lo B n : Nat} {w w' : World} {cs cs' : Array Value} (hkeep : ∀ b, b < w.heap.size → b ≠ B → Nb cs b → w'.heap[b]? = w.heap[b]?) (hnb : ∀ b, b < w.heap.size → Nb cs b → Nb cs' b) :
    ∀ v t, IsP (Vk (fun b => b ≠ B) lo w cs) w n v t → IsP (Vk (fun b => b ≠ B) lo w' cs') w' n v t := fun _ _ hv =>
  hv.keep (fun b hb hk => ⟨hk.1, free_keep (hkeep b hb hk.1 hk.2.2) hk.2.1, hnb b hb hk.2.2⟩) (fun b hb hk => hkeep b hb hk.1 hk.2.2)
theorem own_ne {w : World} {lo lo' k k' n n' : Nat} {t t' : TypeId} {u u' : Value} {xs xs' : List Value} (h : w.ownsRow lo t k u n xs) (h' : w.ownsRow lo' t' k' u' n' xs') (ht : t ≠ t') {b : Nat} (hb : u.ownBlock = some b) : u'.ownBlock ≠ some b := fun e => by
  obtain ⟨_, ⟨rfl, _⟩ | ⟨g, cap, cur, rfl, _, hg, _⟩⟩ := h
  · cases hb
  · obtain ⟨_, ⟨rfl, _⟩ | ⟨g', cap', cur', rfl, _, hg', _⟩⟩ := h'
    · cases e
    · cases hb
      cases e
      rw [hg] at hg'
      cases hg'
      exact ht rfl
section
variable {lo B n : Nat} {w w' : World} {cs cs' : Array Value} {s s' : Sta}
theorem og_same (h : Og (fun b => b ≠ B) lo w n cs s) (hg : w.heap[B]? = some (.cells cs 37 (0, 0))) (hk : KB B w w') (e23 : cs'[23]? = cs[23]?) (e24 : cs'[24]? = cs[24]?)
    (hi : (∀ v t, IsP (Vk (fun b => b ≠ B) lo w cs) w n v t → IsP (Vk (fun b => b ≠ B) lo w' cs') w' n v t) → Ig (IsP (Vk (fun b => b ≠ B) lo w' cs') w' n) cs' s') (ht : s'.tm = s.tm) (hu : s'.up = s.up) : Og (fun b => b ≠ B) lo w' n cs' s' := by
  have hR := vk_to (lo := lo) (B := B) (n := n) (w := w) (w' := w') (cs := cs) (cs' := cs') (fun b hb hne _ => ne_blk hk hb hne) (fun b _ hn v hv => hn v (by rw [e23, e24] at hv; exact hv))
  obtain ⟨a, c, t1, t2⟩ := h.tm
  obtain ⟨ua, uc, us, u1, u2, u3, u4⟩ := h.up
  refine ⟨hi hR, ⟨a, c, by rw [e23, ht]; exact t1, ?_⟩, ⟨ua, uc, us, by rw [e24, hu]; exact u1, ?_, by rw [hu]; exact u3, fun i r u hr hu' => (u4 i r u hr (by rw [hu] at hu'; exact hu')).map hR⟩⟩
  · rw [ht]
    exact owns_blk t2 (Nat.le_refl _) fun b hb => ne_blk hk (t2.lt b hb).2 (fun e => box_ne t2 (by decide) hg (by rw [← e]; exact hb))
  · rw [hu]
    exact owns_blk u2 (Nat.le_refl _) fun b hb => ne_blk hk (u2.lt b hb).2 (fun e => box_ne u2 (by decide) hg (by rw [← e]; exact hb))
theorem og_end (h : Og (fun b => b ≠ B) lo w n cs s) (hg : w.heap[B]? = some (.cells cs 37 (0, 0))) (hk : KB B w w') (e23 : cs'[23]? = some (.slice none 0 0)) (e24 : cs'[24]? = cs[24]?)
    (hi : (∀ v t, IsP (Vk (fun b => b ≠ B) lo w cs) w n v t → IsP (Vk (fun b => b ≠ B) lo w' cs') w' n v t) → Ig (IsP (Vk (fun b => b ≠ B) lo w' cs') w' n) cs' s') (ht : s'.tm = []) (hu : s'.up = s.up) : Og (fun b => b ≠ B) lo w' n cs' s' := by
  have hR := vk_to (lo := lo) (B := B) (n := n) (w := w) (w' := w') (cs := cs) (cs' := cs') (fun b hb hne _ => ne_blk hk hb hne) (fun b _ hn v hv => by
    rcases hv with hv | hv
    · rw [e23] at hv; cases hv; exact fun e => by cases e
    · rw [e24] at hv; exact hn v (.inr hv))
  obtain ⟨ua, uc, us, u1, u2, u3, u4⟩ := h.up
  refine ⟨hi hR, ⟨none, 0, by rw [e23, ht]; rfl, ?_⟩, ⟨ua, uc, us, by rw [e24, hu]; exact u1, ?_, by rw [hu]; exact u3, fun i r u hr hu' => (u4 i r u hr (by rw [hu] at hu'; exact hu')).map hR⟩⟩
  · rw [ht]
    exact World.ownsRow_nil _ _ _ _
  · rw [hu]
    exact owns_blk u2 (Nat.le_refl _) fun b hb => ne_blk hk (u2.lt b hb).2 (fun e => box_ne u2 (by decide) hg (by rw [← e]; exact hb))
theorem og_tm {u v : Value} (h : Og (fun b => b ≠ B) lo w n cs s) (hg : w.heap[B]? = some (.cells cs 37 (0, 0))) (c23 : cs[23]? = some u) (hl : Lw lo B 50 2 u (s'.tm.map Tm.cells) w v w') (e23 : cs'[23]? = some v) (e24 : cs'[24]? = cs[24]?)
    (hi : (∀ v t, IsP (Vk (fun b => b ≠ B) lo w cs) w n v t → IsP (Vk (fun b => b ≠ B) lo w' cs') w' n v t) → Ig (IsP (Vk (fun b => b ≠ B) lo w' cs') w' n) cs' s') (hu : s'.up = s.up) : Og (fun b => b ≠ B) lo w' n cs' s' := by
  have hR := vk_to (lo := lo) (B := B) (n := n) (w := w) (w' := w') (cs := cs) (cs' := cs') (fun b hb hne hn => hl.keep b hb hne (hn u (.inl c23))) (fun b hb hn v' hv => by
    rcases hv with hv | hv
    · rw [e23] at hv; cases hv
      rcases hl.blk with e | e
      · rw [e]; exact hn u (.inl c23)
      · intro e'
        have := e b e'
        omega
    · rw [e24] at hv; exact hn v' (.inr hv))
  obtain ⟨a, c, t1, t2⟩ := h.tm
  obtain ⟨ua, uc, us, u1, u2, u3, u4⟩ := h.up
  rw [c23] at t1
  cases t1
  have hO := hl.own
  rw [List.length_map] at hO
  obtain ⟨a', c', rfl⟩ := owns_shape hO
  refine ⟨hi hR, ⟨a', c', e23, hO⟩, ⟨ua, uc, us, by rw [e24, hu]; exact u1, ?_, by rw [hu]; exact u3, fun i r u hr hu' => (u4 i r u hr (by rw [hu] at hu'; exact hu')).map hR⟩⟩
  rw [hu]
  exact owns_blk u2 (Nat.le_refl _) fun b hb => hl.keep b (u2.lt b hb).2 (fun e => box_ne u2 (by decide) hg (by rw [← e]; exact hb)) (own_ne u2 t2 (by decide) hb)
theorem og_up {u v : Value} {rows : List (Array Value)} (h : Og (fun b => b ≠ B) lo w n cs s) (hg : w.heap[B]? = some (.cells cs 37 (0, 0))) (c24 : cs[24]? = some u) (hl : Lw lo B 52 12 u rows w v w') (hrl : rows.length = s'.up.length) (e23 : cs'[23]? = cs[23]?) (e24 : cs'[24]? = some v)
    (hi : (∀ v t, IsP (Vk (fun b => b ≠ B) lo w cs) w n v t → IsP (Vk (fun b => b ≠ B) lo w' cs') w' n v t) → Ig (IsP (Vk (fun b => b ≠ B) lo w' cs') w' n) cs' s') (ht : s'.tm = s.tm)
    (hr : (∀ v t, IsP (Vk (fun b => b ≠ B) lo w cs) w n v t → IsP (Vk (fun b => b ≠ B) lo w' cs') w' n v t) → ∀ (i : Nat) r u, rows[i]? = some r → s'.up[i]? = some u → IsU (IsP (Vk (fun b => b ≠ B) lo w' cs') w' n) r u) : Og (fun b => b ≠ B) lo w' n cs' s' := by
  have hR := vk_to (lo := lo) (B := B) (n := n) (w := w) (w' := w') (cs := cs) (cs' := cs') (fun b hb hne hn => hl.keep b hb hne (hn u (.inr c24))) (fun b hb hn v' hv => by
    rcases hv with hv | hv
    · rw [e23] at hv; exact hn v' (.inl hv)
    · rw [e24] at hv; cases hv
      rcases hl.blk with e | e
      · rw [e]; exact hn u (.inr c24)
      · intro e'
        have := e b e'
        omega)
  obtain ⟨a, c, t1, t2⟩ := h.tm
  obtain ⟨ua, uc, us, u1, u2, _, _⟩ := h.up
  rw [c24] at u1
  cases u1
  have hO := hl.own
  rw [hrl] at hO
  obtain ⟨a', c', rfl⟩ := owns_shape hO
  refine ⟨hi hR, ⟨a, c, by rw [e23, ht]; exact t1, ?_⟩, ⟨a', c', rows, e24, hO, hrl, hr hR⟩⟩
  rw [ht]
  exact owns_blk t2 (Nat.le_refl _) fun b hb => hl.keep b (t2.lt b hb).2 (fun e => box_ne t2 (by decide) hg (by rw [← e]; exact hb)) (own_ne t2 u2 (by decide) hb)
end
/-- What change answers. -/
def ChP (lo B n : Nat) (s' : Sta) (w : World) (e : Ending) (w' : World) : Prop :=
  e = .returned (.tuple #[]) ∧ ∃ cs', w'.heap[B]? = some (.cells cs' 37 (0, 0)) ∧ Og (fun b => b ≠ B) lo w' n cs' s' ∧ Below lo w w'
theorem chP1 (lo B n : Nat) (cs es : Array Value) (s : Sta) (x : Ev) (w : World) (hg : w.heap[B]? = some (.cells cs 37 (0, 0))) (h : Og (fun b => b ≠ B) lo w (n + 1) cs s) (he : IsEv (IsP (Vk (fun b => b ≠ B) lo w cs) w (n + 1)) es x) (hlo : lo ≤ B) (hk : x.k = 1) :
    Calls Try.prog 21 #[.pointer (some ⟨B, 0, none⟩), .agg es] w (ChP lo B (n + 1) (ch1 s x) w) := by
  have hBl : B < w.heap.size := (Array.getElem?_eq_some_iff.1 hg).1
  have hlw : lo ≤ w.heap.size := by omega
  have i := h.ig
  have e0 := he.c0
  rw [hk] at e0
  obtain ⟨k0, x0, b0, s0, a0, m0, n0, v5, v6, v7, v8, v9, hv⟩ := he.v
  obtain ⟨k1, x1, b1, s1, a1, l1, n1, d8, d9, d10, d11, d12, _⟩ := i.inp
  refine (chg1 B cs es s.count s.time x.t s.status s.dl x.d x.f s.pf x.m s.pm x.c s.pc s.fresh s.typ x.s k0 x0 b0 s0 a0 m0 n0 k1 x1 b1 s1 a1 l1 n1 w hg i.c1 i.c2 i.c3 i.c4 i.c7 d8 d9 d10 d11 d12 i.c13 i.c14 i.c15 i.c21 e0 he.c1 he.c3 he.c4 v5 v6 v7 v8 v9 he.c10 he.c11 he.c12).mono ?_
  rintro e w' ⟨rfl, hw⟩
  exact ⟨rfl, _, hw.row, og_same h hg hw.kb (puts_ne (by simp)) (puts_ne (by simp)) (fun hR => ig1 x (hR _ _ hv) h.ig hR) rfl rfl, hw.kb.below hlo hlw⟩
theorem chP7 (lo B n : Nat) (cs es : Array Value) (s : Sta) (x : Ev) (w : World) (hg : w.heap[B]? = some (.cells cs 37 (0, 0))) (h : Og (fun b => b ≠ B) lo w (n + 1) cs s) (he : IsEv (IsP (Vk (fun b => b ≠ B) lo w cs) w (n + 1)) es x) (hlo : lo ≤ B) (hk : x.k = 7) :
    Calls Try.prog 21 #[.pointer (some ⟨B, 0, none⟩), .agg es] w (ChP lo B (n + 1) (ch7 s x) w) := by
  have hBl : B < w.heap.size := (Array.getElem?_eq_some_iff.1 hg).1
  have hlw : lo ≤ w.heap.size := by omega
  have i := h.ig
  have e0 := he.c0
  rw [hk] at e0
  refine (chg7 B cs es s.count s.time x.t s.sig s.fresh w hg i.c2 i.c3 i.c6 i.c21 e0 he.c1).mono ?_
  rintro e w' ⟨rfl, hw⟩
  exact ⟨rfl, _, hw.row, og_same h hg hw.kb (puts_ne (by simp)) (puts_ne (by simp)) (fun hR => ig7 x h.ig hR) rfl rfl, hw.kb.below hlo hlw⟩
theorem chP8 (lo B n : Nat) (cs es : Array Value) (s : Sta) (x : Ev) (w : World) (hg : w.heap[B]? = some (.cells cs 37 (0, 0))) (h : Og (fun b => b ≠ B) lo w (n + 1) cs s) (he : IsEv (IsP (Vk (fun b => b ≠ B) lo w cs) w (n + 1)) es x) (hlo : lo ≤ B) (hk : x.k = 8) :
    Calls Try.prog 21 #[.pointer (some ⟨B, 0, none⟩), .agg es] w (ChP lo B (n + 1) (ch8 s x) w) := by
  have hBl : B < w.heap.size := (Array.getElem?_eq_some_iff.1 hg).1
  have hlw : lo ≤ w.heap.size := by omega
  have i := h.ig
  have e0 := he.c0
  rw [hk] at e0
  refine (chg8 B cs es s.count s.time x.t s.fresh s.cancel w hg i.c2 i.c3 i.c21 i.c22 e0 he.c1).mono ?_
  rintro e w' ⟨rfl, hw⟩
  exact ⟨rfl, _, hw.row, og_same h hg hw.kb (puts_ne (by simp)) (puts_ne (by simp)) (fun hR => ig8 x h.ig hR) rfl rfl, hw.kb.below hlo hlw⟩
theorem chP14 (lo B n : Nat) (cs es : Array Value) (s : Sta) (x : Ev) (w : World) (hg : w.heap[B]? = some (.cells cs 37 (0, 0))) (h : Og (fun b => b ≠ B) lo w (n + 1) cs s) (he : IsEv (IsP (Vk (fun b => b ≠ B) lo w cs) w (n + 1)) es x) (hlo : lo ≤ B) (hk : x.k = 14) :
    Calls Try.prog 21 #[.pointer (some ⟨B, 0, none⟩), .agg es] w (ChP lo B (n + 1) (ch14 s x) w) := by
  have hBl : B < w.heap.size := (Array.getElem?_eq_some_iff.1 hg).1
  have hlw : lo ≤ w.heap.size := by omega
  have i := h.ig
  have e0 := he.c0
  rw [hk] at e0
  refine (chg14 B cs es s.count s.time x.t w hg i.c2 i.c3 e0 he.c1).mono ?_
  rintro e w' ⟨rfl, hw⟩
  exact ⟨rfl, _, hw.row, og_same h hg hw.kb (puts_ne (by simp)) (puts_ne (by simp)) (fun hR => ig14 x h.ig hR) rfl rfl, hw.kb.below hlo hlw⟩
theorem chP2 (lo B n : Nat) (cs es : Array Value) (s : Sta) (x : Ev) (w : World) (hg : w.heap[B]? = some (.cells cs 37 (0, 0))) (h : Og (fun b => b ≠ B) lo w (n + 1) cs s) (he : IsEv (IsP (Vk (fun b => b ≠ B) lo w cs) w (n + 1)) es x) (hlo : lo ≤ B) (hk : x.k = 2) :
    Calls Try.prog 21 #[.pointer (some ⟨B, 0, none⟩), .agg es] w (ChP lo B (n + 1) (ch2 s x) w) := by
  have hBl : B < w.heap.size := (Array.getElem?_eq_some_iff.1 hg).1
  have hlw : lo ≤ w.heap.size := by omega
  have i := h.ig
  have e0 := he.c0
  rw [hk] at e0
  have o1 : ∀ q, q ≠ 2 → q ≠ 3 → (cs1 cs s.count x.t)[q]? = cs[q]? := fun q h2 h3 => puts_ne (by simp; omega)
  have d2 : (cs1 cs s.count x.t)[2]? = some (.int .i64 (wrap64 (s.count + 1))) := by simp [cs1, puts, i.size]
  have f := fun q v (h2 : q ≠ 2) (h3 : q ≠ 3) (hq : cs[q]? = some v) => (o1 q h2 h3).trans hq
  refine chgC2 B cs es s.count s.time x.t w (PuP B (cs1 cs s.count x.t) [(16, .int .i64 1), (17, .int .i64 x.n), (18, .int .i64 x.d), (19, .int .i64 0), (20, .int .i64 0)]) _ hg i.c2 i.c3 he.size e0 he.c1 (fun W hw => task2 B _ es _ _ _ _ _ x.n x.d W hw.row (f 16 _ (by decide) (by decide) i.c16) (f 17 _ (by decide) (by decide) i.c17) (f 18 _ (by decide) (by decide) i.c18) (f 19 _ (by decide) (by decide) i.c19) (f 20 _ (by decide) (by decide) i.c20) he.c2 he.c3 e0) (fun W e W' hw0 h1 => ?_)
  obtain ⟨rfl, hw⟩ := h1
  have hrow := hw.row
  rw [cs1, ← puts_app] at hrow
  exact ⟨rfl, rfl, _, hrow, og_same h hg (hw0.kb.trans hw.kb) (puts_ne (by simp)) (puts_ne (by simp)) (fun hR => ig2 x h.ig hR) rfl rfl, (hw0.kb.trans hw.kb).below hlo hlw⟩
theorem chP3 (lo B n : Nat) (cs es : Array Value) (s : Sta) (x : Ev) (w : World) (hg : w.heap[B]? = some (.cells cs 37 (0, 0))) (h : Og (fun b => b ≠ B) lo w (n + 1) cs s) (he : IsEv (IsP (Vk (fun b => b ≠ B) lo w cs) w (n + 1)) es x) (hlo : lo ≤ B) (hk : x.k = 3) :
    Calls Try.prog 21 #[.pointer (some ⟨B, 0, none⟩), .agg es] w (ChP lo B (n + 1) (ch3 s x) w) := by
  have hBl : B < w.heap.size := (Array.getElem?_eq_some_iff.1 hg).1
  have hlw : lo ≤ w.heap.size := by omega
  have i := h.ig
  have e0 := he.c0
  rw [hk] at e0
  have o1 : ∀ q, q ≠ 2 → q ≠ 3 → (cs1 cs s.count x.t)[q]? = cs[q]? := fun q h2 h3 => puts_ne (by simp; omega)
  have d2 : (cs1 cs s.count x.t)[2]? = some (.int .i64 (wrap64 (s.count + 1))) := by simp [cs1, puts, i.size]
  have f := fun q v (h2 : q ≠ 2) (h3 : q ≠ 3) (hq : cs[q]? = some v) => (o1 q h2 h3).trans hq
  refine chgC3 B cs es s.count s.time x.t w (PuP B (cs1 cs s.count x.t) [(16, .int .i64 2), (17, .int .i64 s.ta), (18, .int .i64 x.d), (19, .int .i64 (wrap64 (s.count + 1))), (20, .int .i64 (wrap64 (s.count + 1))), (21, .bool false)]) _ hg i.c2 i.c3 he.size e0 he.c1 (fun W hw => task3 B _ es _ _ _ _ _ x.d _ _ W hw.row (f 16 _ (by decide) (by decide) i.c16) (f 17 _ (by decide) (by decide) i.c17) (f 18 _ (by decide) (by decide) i.c18) (f 19 _ (by decide) (by decide) i.c19) (f 20 _ (by decide) (by decide) i.c20) d2 (f 21 _ (by decide) (by decide) i.c21) he.c3 e0) (fun W e W' hw0 h1 => ?_)
  obtain ⟨rfl, hw⟩ := h1
  have hrow := hw.row
  rw [cs1, ← puts_app] at hrow
  exact ⟨rfl, rfl, _, hrow, og_same h hg (hw0.kb.trans hw.kb) (puts_ne (by simp)) (puts_ne (by simp)) (fun hR => ig3 x h.ig hR) rfl rfl, (hw0.kb.trans hw.kb).below hlo hlw⟩
theorem chP4a (lo B n : Nat) (cs es : Array Value) (s : Sta) (x : Ev) (w : World) (hg : w.heap[B]? = some (.cells cs 37 (0, 0))) (h : Og (fun b => b ≠ B) lo w (n + 1) cs s) (he : IsEv (IsP (Vk (fun b => b ≠ B) lo w cs) w (n + 1)) es x) (hlo : lo ≤ B) (hk : x.k = 4) (hn : ¬ 0 < x.n) :
    Calls Try.prog 21 #[.pointer (some ⟨B, 0, none⟩), .agg es] w (ChP lo B (n + 1) (ch4 s x) w) := by
  have hBl : B < w.heap.size := (Array.getElem?_eq_some_iff.1 hg).1
  have hlw : lo ≤ w.heap.size := by omega
  have i := h.ig
  have e0 := he.c0
  rw [hk] at e0
  have o1 : ∀ q, q ≠ 2 → q ≠ 3 → (cs1 cs s.count x.t)[q]? = cs[q]? := fun q h2 h3 => puts_ne (by simp; omega)
  have d2 : (cs1 cs s.count x.t)[2]? = some (.int .i64 (wrap64 (s.count + 1))) := by simp [cs1, puts, i.size]
  have f := fun q v (h2 : q ≠ 2) (h3 : q ≠ 3) (hq : cs[q]? = some v) => (o1 q h2 h3).trans hq
  refine chgC4 B cs es s.count s.time x.t w (PuP B (cs1 cs s.count x.t) [(16, .int .i64 0), (17, .int .i64 0), (18, .int .i64 0), (19, .int .i64 0), (20, .int .i64 0)]) _ hg i.c2 i.c3 he.size e0 he.c1 (fun W hw => taskEnd B _ es 4 _ _ _ _ _ x.n W hw.row (by decide) (by decide) (f 16 _ (by decide) (by decide) i.c16) (f 17 _ (by decide) (by decide) i.c17) (f 18 _ (by decide) (by decide) i.c18) (f 19 _ (by decide) (by decide) i.c19) (f 20 _ (by decide) (by decide) i.c20) he.c2 hn e0) (fun W e W' hw0 h1 => ?_)
  obtain ⟨rfl, hw⟩ := h1
  have hrow := hw.row
  rw [cs1, ← puts_app] at hrow
  exact ⟨rfl, rfl, _, hrow, og_same h hg (hw0.kb.trans hw.kb) (puts_ne (by simp)) (puts_ne (by simp)) (fun hR => ig4 x h.ig hR) rfl rfl, (hw0.kb.trans hw.kb).below hlo hlw⟩
theorem chP4b (lo B n : Nat) (cs es : Array Value) (s : Sta) (x : Ev) (w : World) (hg : w.heap[B]? = some (.cells cs 37 (0, 0))) (h : Og (fun b => b ≠ B) lo w (n + 1) cs s) (he : IsEv (IsP (Vk (fun b => b ≠ B) lo w cs) w (n + 1)) es x) (hlo : lo ≤ B) (hk : x.k = 4) (hn : 0 < x.n) :
    Calls Try.prog 21 #[.pointer (some ⟨B, 0, none⟩), .agg es] w (ChP lo B (n + 1) (ch5 s x) w) := by
  have hBl : B < w.heap.size := (Array.getElem?_eq_some_iff.1 hg).1
  have hlw : lo ≤ w.heap.size := by omega
  have i := h.ig
  have e0 := he.c0
  rw [hk] at e0
  have o1 : ∀ q, q ≠ 2 → q ≠ 3 → (cs1 cs s.count x.t)[q]? = cs[q]? := fun q h2 h3 => puts_ne (by simp; omega)
  have d2 : (cs1 cs s.count x.t)[2]? = some (.int .i64 (wrap64 (s.count + 1))) := by simp [cs1, puts, i.size]
  have f := fun q v (h2 : q ≠ 2) (h3 : q ≠ 3) (hq : cs[q]? = some v) => (o1 q h2 h3).trans hq
  refine chgC4 B cs es s.count s.time x.t w (PuP B (cs1 cs s.count x.t) [(16, .int .i64 0), (17, .int .i64 0), (18, .int .i64 0), (19, .int .i64 0), (20, .int .i64 0), (5, .int .i64 x.n)]) _ hg i.c2 i.c3 he.size e0 he.c1 (fun W hw => taskFrom B _ es 4 _ _ _ _ _ x.n _ W hw.row (by decide) (by decide) (f 16 _ (by decide) (by decide) i.c16) (f 17 _ (by decide) (by decide) i.c17) (f 18 _ (by decide) (by decide) i.c18) (f 19 _ (by decide) (by decide) i.c19) (f 20 _ (by decide) (by decide) i.c20) (f 5 _ (by decide) (by decide) i.c5) he.c2 hn e0) (fun W e W' hw0 h1 => ?_)
  obtain ⟨rfl, hw⟩ := h1
  have hrow := hw.row
  rw [cs1, ← puts_app] at hrow
  exact ⟨rfl, rfl, _, hrow, og_same h hg (hw0.kb.trans hw.kb) (puts_ne (by simp)) (puts_ne (by simp)) (fun hR => ig5 x h.ig hR) rfl rfl, (hw0.kb.trans hw.kb).below hlo hlw⟩
theorem chP5a (lo B n : Nat) (cs es : Array Value) (s : Sta) (x : Ev) (w : World) (hg : w.heap[B]? = some (.cells cs 37 (0, 0))) (h : Og (fun b => b ≠ B) lo w (n + 1) cs s) (he : IsEv (IsP (Vk (fun b => b ≠ B) lo w cs) w (n + 1)) es x) (hlo : lo ≤ B) (hk : x.k = 5) (hn : ¬ 0 < x.n) :
    Calls Try.prog 21 #[.pointer (some ⟨B, 0, none⟩), .agg es] w (ChP lo B (n + 1) (ch4 s x) w) := by
  have hBl : B < w.heap.size := (Array.getElem?_eq_some_iff.1 hg).1
  have hlw : lo ≤ w.heap.size := by omega
  have i := h.ig
  have e0 := he.c0
  rw [hk] at e0
  have o1 : ∀ q, q ≠ 2 → q ≠ 3 → (cs1 cs s.count x.t)[q]? = cs[q]? := fun q h2 h3 => puts_ne (by simp; omega)
  have d2 : (cs1 cs s.count x.t)[2]? = some (.int .i64 (wrap64 (s.count + 1))) := by simp [cs1, puts, i.size]
  have f := fun q v (h2 : q ≠ 2) (h3 : q ≠ 3) (hq : cs[q]? = some v) => (o1 q h2 h3).trans hq
  refine chgC5 B cs es s.count s.time x.t w (PuP B (cs1 cs s.count x.t) [(16, .int .i64 0), (17, .int .i64 0), (18, .int .i64 0), (19, .int .i64 0), (20, .int .i64 0)]) _ hg i.c2 i.c3 he.size e0 he.c1 (fun W hw => taskEnd B _ es 5 _ _ _ _ _ x.n W hw.row (by decide) (by decide) (f 16 _ (by decide) (by decide) i.c16) (f 17 _ (by decide) (by decide) i.c17) (f 18 _ (by decide) (by decide) i.c18) (f 19 _ (by decide) (by decide) i.c19) (f 20 _ (by decide) (by decide) i.c20) he.c2 hn e0) (fun W e W' hw0 h1 => ?_)
  obtain ⟨rfl, hw⟩ := h1
  have hrow := hw.row
  rw [cs1, ← puts_app] at hrow
  exact ⟨rfl, rfl, _, hrow, og_same h hg (hw0.kb.trans hw.kb) (puts_ne (by simp)) (puts_ne (by simp)) (fun hR => ig4 x h.ig hR) rfl rfl, (hw0.kb.trans hw.kb).below hlo hlw⟩
theorem chP5b (lo B n : Nat) (cs es : Array Value) (s : Sta) (x : Ev) (w : World) (hg : w.heap[B]? = some (.cells cs 37 (0, 0))) (h : Og (fun b => b ≠ B) lo w (n + 1) cs s) (he : IsEv (IsP (Vk (fun b => b ≠ B) lo w cs) w (n + 1)) es x) (hlo : lo ≤ B) (hk : x.k = 5) (hn : 0 < x.n) :
    Calls Try.prog 21 #[.pointer (some ⟨B, 0, none⟩), .agg es] w (ChP lo B (n + 1) (ch5 s x) w) := by
  have hBl : B < w.heap.size := (Array.getElem?_eq_some_iff.1 hg).1
  have hlw : lo ≤ w.heap.size := by omega
  have i := h.ig
  have e0 := he.c0
  rw [hk] at e0
  have o1 : ∀ q, q ≠ 2 → q ≠ 3 → (cs1 cs s.count x.t)[q]? = cs[q]? := fun q h2 h3 => puts_ne (by simp; omega)
  have d2 : (cs1 cs s.count x.t)[2]? = some (.int .i64 (wrap64 (s.count + 1))) := by simp [cs1, puts, i.size]
  have f := fun q v (h2 : q ≠ 2) (h3 : q ≠ 3) (hq : cs[q]? = some v) => (o1 q h2 h3).trans hq
  refine chgC5 B cs es s.count s.time x.t w (PuP B (cs1 cs s.count x.t) [(16, .int .i64 0), (17, .int .i64 0), (18, .int .i64 0), (19, .int .i64 0), (20, .int .i64 0), (5, .int .i64 x.n)]) _ hg i.c2 i.c3 he.size e0 he.c1 (fun W hw => taskFrom B _ es 5 _ _ _ _ _ x.n _ W hw.row (by decide) (by decide) (f 16 _ (by decide) (by decide) i.c16) (f 17 _ (by decide) (by decide) i.c17) (f 18 _ (by decide) (by decide) i.c18) (f 19 _ (by decide) (by decide) i.c19) (f 20 _ (by decide) (by decide) i.c20) (f 5 _ (by decide) (by decide) i.c5) he.c2 hn e0) (fun W e W' hw0 h1 => ?_)
  obtain ⟨rfl, hw⟩ := h1
  have hrow := hw.row
  rw [cs1, ← puts_app] at hrow
  exact ⟨rfl, rfl, _, hrow, og_same h hg (hw0.kb.trans hw.kb) (puts_ne (by simp)) (puts_ne (by simp)) (fun hR => ig5 x h.ig hR) rfl rfl, (hw0.kb.trans hw.kb).below hlo hlw⟩
theorem chP6a (lo B n : Nat) (cs es : Array Value) (s : Sta) (x : Ev) (w : World) (hg : w.heap[B]? = some (.cells cs 37 (0, 0))) (h : Og (fun b => b ≠ B) lo w (n + 1) cs s) (he : IsEv (IsP (Vk (fun b => b ≠ B) lo w cs) w (n + 1)) es x) (hlo : lo ≤ B) (hk : x.k = 6) (hn : ¬ 0 < x.n) :
    Calls Try.prog 21 #[.pointer (some ⟨B, 0, none⟩), .agg es] w (ChP lo B (n + 1) (ch4 s x) w) := by
  have hBl : B < w.heap.size := (Array.getElem?_eq_some_iff.1 hg).1
  have hlw : lo ≤ w.heap.size := by omega
  have i := h.ig
  have e0 := he.c0
  rw [hk] at e0
  have o1 : ∀ q, q ≠ 2 → q ≠ 3 → (cs1 cs s.count x.t)[q]? = cs[q]? := fun q h2 h3 => puts_ne (by simp; omega)
  have d2 : (cs1 cs s.count x.t)[2]? = some (.int .i64 (wrap64 (s.count + 1))) := by simp [cs1, puts, i.size]
  have f := fun q v (h2 : q ≠ 2) (h3 : q ≠ 3) (hq : cs[q]? = some v) => (o1 q h2 h3).trans hq
  refine chgC6 B cs es s.count s.time x.t w (PuP B (cs1 cs s.count x.t) [(16, .int .i64 0), (17, .int .i64 0), (18, .int .i64 0), (19, .int .i64 0), (20, .int .i64 0)]) _ hg i.c2 i.c3 he.size e0 he.c1 (fun W hw => taskEnd B _ es 6 _ _ _ _ _ x.n W hw.row (by decide) (by decide) (f 16 _ (by decide) (by decide) i.c16) (f 17 _ (by decide) (by decide) i.c17) (f 18 _ (by decide) (by decide) i.c18) (f 19 _ (by decide) (by decide) i.c19) (f 20 _ (by decide) (by decide) i.c20) he.c2 hn e0) (fun W e W' hw0 h1 => ?_)
  obtain ⟨rfl, hw⟩ := h1
  have hrow := hw.row
  rw [cs1, ← puts_app] at hrow
  exact ⟨rfl, rfl, _, hrow, og_same h hg (hw0.kb.trans hw.kb) (puts_ne (by simp)) (puts_ne (by simp)) (fun hR => ig4 x h.ig hR) rfl rfl, (hw0.kb.trans hw.kb).below hlo hlw⟩
theorem chP6b (lo B n : Nat) (cs es : Array Value) (s : Sta) (x : Ev) (w : World) (hg : w.heap[B]? = some (.cells cs 37 (0, 0))) (h : Og (fun b => b ≠ B) lo w (n + 1) cs s) (he : IsEv (IsP (Vk (fun b => b ≠ B) lo w cs) w (n + 1)) es x) (hlo : lo ≤ B) (hk : x.k = 6) (hn : 0 < x.n) :
    Calls Try.prog 21 #[.pointer (some ⟨B, 0, none⟩), .agg es] w (ChP lo B (n + 1) (ch5 s x) w) := by
  have hBl : B < w.heap.size := (Array.getElem?_eq_some_iff.1 hg).1
  have hlw : lo ≤ w.heap.size := by omega
  have i := h.ig
  have e0 := he.c0
  rw [hk] at e0
  have o1 : ∀ q, q ≠ 2 → q ≠ 3 → (cs1 cs s.count x.t)[q]? = cs[q]? := fun q h2 h3 => puts_ne (by simp; omega)
  have d2 : (cs1 cs s.count x.t)[2]? = some (.int .i64 (wrap64 (s.count + 1))) := by simp [cs1, puts, i.size]
  have f := fun q v (h2 : q ≠ 2) (h3 : q ≠ 3) (hq : cs[q]? = some v) => (o1 q h2 h3).trans hq
  refine chgC6 B cs es s.count s.time x.t w (PuP B (cs1 cs s.count x.t) [(16, .int .i64 0), (17, .int .i64 0), (18, .int .i64 0), (19, .int .i64 0), (20, .int .i64 0), (5, .int .i64 x.n)]) _ hg i.c2 i.c3 he.size e0 he.c1 (fun W hw => taskFrom B _ es 6 _ _ _ _ _ x.n _ W hw.row (by decide) (by decide) (f 16 _ (by decide) (by decide) i.c16) (f 17 _ (by decide) (by decide) i.c17) (f 18 _ (by decide) (by decide) i.c18) (f 19 _ (by decide) (by decide) i.c19) (f 20 _ (by decide) (by decide) i.c20) (f 5 _ (by decide) (by decide) i.c5) he.c2 hn e0) (fun W e W' hw0 h1 => ?_)
  obtain ⟨rfl, hw⟩ := h1
  have hrow := hw.row
  rw [cs1, ← puts_app] at hrow
  exact ⟨rfl, rfl, _, hrow, og_same h hg (hw0.kb.trans hw.kb) (puts_ne (by simp)) (puts_ne (by simp)) (fun hR => ig5 x h.ig hR) rfl rfl, (hw0.kb.trans hw.kb).below hlo hlw⟩
theorem chP15 (lo B n : Nat) (cs es : Array Value) (s : Sta) (x : Ev) (w : World) (hg : w.heap[B]? = some (.cells cs 37 (0, 0))) (h : Og (fun b => b ≠ B) lo w (n + 1) cs s) (he : IsEv (IsP (Vk (fun b => b ≠ B) lo w cs) w (n + 1)) es x) (hlo : lo ≤ B) (hk : x.k = 15) :
    Calls Try.prog 21 #[.pointer (some ⟨B, 0, none⟩), .agg es] w (ChP lo B (n + 1) (ch15 s x) w) := by
  have hBl : B < w.heap.size := (Array.getElem?_eq_some_iff.1 hg).1
  have hlw : lo ≤ w.heap.size := by omega
  have i := h.ig
  have e0 := he.c0
  rw [hk] at e0
  obtain ⟨ta, tc, t1, _⟩ := h.tm
  obtain ⟨k0, x0, b0, s0, a0, m0, n0, v5, v6, v7, v8, v9, hv⟩ := he.v
  obtain ⟨k1, x1, b1, s1, a1, l1, n1, r5, r6, r7, r8, r9, _⟩ := i.res
  have o1 : ∀ q, q ≠ 2 → q ≠ 3 → (cs1 cs s.count x.t)[q]? = cs[q]? := fun q h2 h3 => puts_ne (by simp; omega)
  have d2 : (cs1 cs s.count x.t)[2]? = some (.int .i64 (wrap64 (s.count + 1))) := by simp [cs1, puts, i.size]
  have f := fun q v (h2 : q ≠ 2) (h3 : q ≠ 3) (hq : cs[q]? = some v) => (o1 q h2 h3).trans hq
  refine chgC15 B cs es s.count s.time x.t w (PuP B (cs1 cs s.count x.t) [(16, .int .i64 0), (17, .int .i64 0), (18, .int .i64 0), (19, .int .i64 0), (20, .int .i64 0), (23, .slice none 0 0), (1, .int .i64 2), (25, .int .i64 k0), (26, .int .i64 x0), (27, .int .u64 b0), (28, .string s0), (29, .slice a0 m0 n0)]) _ hg i.c2 i.c3 he.size e0 he.c1 (fun W hw => end15 B _ es _ _ _ _ _ _ _ _ _ k0 x0 b0 _ _ _ s0 _ a0 _ m0 n0 _ _ W hw.row (f 16 _ (by decide) (by decide) i.c16) (f 17 _ (by decide) (by decide) i.c17) (f 18 _ (by decide) (by decide) i.c18) (f 19 _ (by decide) (by decide) i.c19) (f 20 _ (by decide) (by decide) i.c20) (f 23 _ (by decide) (by decide) t1) (f 1 _ (by decide) (by decide) i.c1) (f 25 _ (by decide) (by decide) r5) (f 26 _ (by decide) (by decide) r6) (f 27 _ (by decide) (by decide) r7) (f 28 _ (by decide) (by decide) r8) (f 29 _ (by decide) (by decide) r9) v5 v6 v7 v8 v9 e0) (fun W e W' hw0 h1 => ?_)
  obtain ⟨rfl, hw⟩ := h1
  have hrow := hw.row
  rw [cs1, ← puts_app] at hrow
  exact ⟨rfl, rfl, _, hrow, og_end h hg (hw0.kb.trans hw.kb) (by simp [puts, i.size]) (puts_ne (by simp)) (fun hR => ig15 x (hR _ _ hv) h.ig hR) rfl rfl, (hw0.kb.trans hw.kb).below hlo hlw⟩
theorem chP16 (lo B n : Nat) (cs es : Array Value) (s : Sta) (x : Ev) (w : World) (hg : w.heap[B]? = some (.cells cs 37 (0, 0))) (h : Og (fun b => b ≠ B) lo w (n + 1) cs s) (he : IsEv (IsP (Vk (fun b => b ≠ B) lo w cs) w (n + 1)) es x) (hlo : lo ≤ B) (hk : x.k = 16) :
    Calls Try.prog 21 #[.pointer (some ⟨B, 0, none⟩), .agg es] w (ChP lo B (n + 1) (ch16 s x) w) := by
  have hBl : B < w.heap.size := (Array.getElem?_eq_some_iff.1 hg).1
  have hlw : lo ≤ w.heap.size := by omega
  have i := h.ig
  have e0 := he.c0
  rw [hk] at e0
  obtain ⟨ta, tc, t1, _⟩ := h.tm
  have o1 : ∀ q, q ≠ 2 → q ≠ 3 → (cs1 cs s.count x.t)[q]? = cs[q]? := fun q h2 h3 => puts_ne (by simp; omega)
  have d2 : (cs1 cs s.count x.t)[2]? = some (.int .i64 (wrap64 (s.count + 1))) := by simp [cs1, puts, i.size]
  have f := fun q v (h2 : q ≠ 2) (h3 : q ≠ 3) (hq : cs[q]? = some v) => (o1 q h2 h3).trans hq
  refine chgC16 B cs es s.count s.time x.t w (PuP B (cs1 cs s.count x.t) [(16, .int .i64 0), (17, .int .i64 0), (18, .int .i64 0), (19, .int .i64 0), (20, .int .i64 0), (23, .slice none 0 0), (1, .int .i64 3), (30, .string x.s)]) _ hg i.c2 i.c3 he.size e0 he.c1 (fun W hw => end16 B _ es _ _ _ _ _ _ _ _ _ _ x.s W hw.row (f 16 _ (by decide) (by decide) i.c16) (f 17 _ (by decide) (by decide) i.c17) (f 18 _ (by decide) (by decide) i.c18) (f 19 _ (by decide) (by decide) i.c19) (f 20 _ (by decide) (by decide) i.c20) (f 23 _ (by decide) (by decide) t1) (f 1 _ (by decide) (by decide) i.c1) (f 30 _ (by decide) (by decide) i.c30) he.c4 e0) (fun W e W' hw0 h1 => ?_)
  obtain ⟨rfl, hw⟩ := h1
  have hrow := hw.row
  rw [cs1, ← puts_app] at hrow
  exact ⟨rfl, rfl, _, hrow, og_end h hg (hw0.kb.trans hw.kb) (by simp [puts, i.size]) (puts_ne (by simp)) (fun hR => ig16 x h.ig hR) rfl rfl, (hw0.kb.trans hw.kb).below hlo hlw⟩
theorem chP18 (lo B n : Nat) (cs es : Array Value) (s : Sta) (x : Ev) (w : World) (hg : w.heap[B]? = some (.cells cs 37 (0, 0))) (h : Og (fun b => b ≠ B) lo w (n + 1) cs s) (he : IsEv (IsP (Vk (fun b => b ≠ B) lo w cs) w (n + 1)) es x) (hlo : lo ≤ B) (hk : x.k = 18) :
    Calls Try.prog 21 #[.pointer (some ⟨B, 0, none⟩), .agg es] w (ChP lo B (n + 1) (ch18 s x) w) := by
  have hBl : B < w.heap.size := (Array.getElem?_eq_some_iff.1 hg).1
  have hlw : lo ≤ w.heap.size := by omega
  have i := h.ig
  have e0 := he.c0
  rw [hk] at e0
  obtain ⟨ta, tc, t1, _⟩ := h.tm
  have o1 : ∀ q, q ≠ 2 → q ≠ 3 → (cs1 cs s.count x.t)[q]? = cs[q]? := fun q h2 h3 => puts_ne (by simp; omega)
  have d2 : (cs1 cs s.count x.t)[2]? = some (.int .i64 (wrap64 (s.count + 1))) := by simp [cs1, puts, i.size]
  have f := fun q v (h2 : q ≠ 2) (h3 : q ≠ 3) (hq : cs[q]? = some v) => (o1 q h2 h3).trans hq
  refine chgC18 B cs es s.count s.time x.t w (PuP B (cs1 cs s.count x.t) [(16, .int .i64 0), (17, .int .i64 0), (18, .int .i64 0), (19, .int .i64 0), (20, .int .i64 0), (23, .slice none 0 0), (1, .int .i64 5), (30, .string x.s)]) _ hg i.c2 i.c3 he.size e0 he.c1 (fun W hw => end18 B _ es _ _ _ _ _ _ _ _ _ _ x.s W hw.row (f 16 _ (by decide) (by decide) i.c16) (f 17 _ (by decide) (by decide) i.c17) (f 18 _ (by decide) (by decide) i.c18) (f 19 _ (by decide) (by decide) i.c19) (f 20 _ (by decide) (by decide) i.c20) (f 23 _ (by decide) (by decide) t1) (f 1 _ (by decide) (by decide) i.c1) (f 30 _ (by decide) (by decide) i.c30) he.c4 e0) (fun W e W' hw0 h1 => ?_)
  obtain ⟨rfl, hw⟩ := h1
  have hrow := hw.row
  rw [cs1, ← puts_app] at hrow
  exact ⟨rfl, rfl, _, hrow, og_end h hg (hw0.kb.trans hw.kb) (by simp [puts, i.size]) (puts_ne (by simp)) (fun hR => ig18 x h.ig hR) rfl rfl, (hw0.kb.trans hw.kb).below hlo hlw⟩
theorem chP17 (lo B n : Nat) (cs es : Array Value) (s : Sta) (x : Ev) (w : World) (hg : w.heap[B]? = some (.cells cs 37 (0, 0))) (h : Og (fun b => b ≠ B) lo w (n + 1) cs s) (he : IsEv (IsP (Vk (fun b => b ≠ B) lo w cs) w (n + 1)) es x) (hlo : lo ≤ B) (hk : x.k = 17) :
    Calls Try.prog 21 #[.pointer (some ⟨B, 0, none⟩), .agg es] w (ChP lo B (n + 1) (ch17 s x) w) := by
  have hBl : B < w.heap.size := (Array.getElem?_eq_some_iff.1 hg).1
  have hlw : lo ≤ w.heap.size := by omega
  have i := h.ig
  have e0 := he.c0
  rw [hk] at e0
  obtain ⟨ta, tc, t1, _⟩ := h.tm
  have o1 : ∀ q, q ≠ 2 → q ≠ 3 → (cs1 cs s.count x.t)[q]? = cs[q]? := fun q h2 h3 => puts_ne (by simp; omega)
  have d2 : (cs1 cs s.count x.t)[2]? = some (.int .i64 (wrap64 (s.count + 1))) := by simp [cs1, puts, i.size]
  have f := fun q v (h2 : q ≠ 2) (h3 : q ≠ 3) (hq : cs[q]? = some v) => (o1 q h2 h3).trans hq
  refine chgC17 B cs es s.count s.time x.t w (PuP B (cs1 cs s.count x.t) [(16, .int .i64 0), (17, .int .i64 0), (18, .int .i64 0), (19, .int .i64 0), (20, .int .i64 0), (23, .slice none 0 0), (1, .int .i64 4)]) _ hg i.c2 i.c3 he.size e0 he.c1 (fun W hw => end17 B _ es _ _ _ _ _ _ _ _ _ W hw.row (f 16 _ (by decide) (by decide) i.c16) (f 17 _ (by decide) (by decide) i.c17) (f 18 _ (by decide) (by decide) i.c18) (f 19 _ (by decide) (by decide) i.c19) (f 20 _ (by decide) (by decide) i.c20) (f 23 _ (by decide) (by decide) t1) (f 1 _ (by decide) (by decide) i.c1) e0) (fun W e W' hw0 h1 => ?_)
  obtain ⟨rfl, hw⟩ := h1
  have hrow := hw.row
  rw [cs1, ← puts_app] at hrow
  exact ⟨rfl, rfl, _, hrow, og_end h hg (hw0.kb.trans hw.kb) (by simp [puts, i.size]) (puts_ne (by simp)) (fun hR => ig17 x h.ig hR) rfl rfl, (hw0.kb.trans hw.kb).below hlo hlw⟩
theorem chP19 (lo B n : Nat) (cs es : Array Value) (s : Sta) (x : Ev) (w : World) (hg : w.heap[B]? = some (.cells cs 37 (0, 0))) (h : Og (fun b => b ≠ B) lo w (n + 1) cs s) (he : IsEv (IsP (Vk (fun b => b ≠ B) lo w cs) w (n + 1)) es x) (hlo : lo ≤ B) (hk : x.k = 19) :
    Calls Try.prog 21 #[.pointer (some ⟨B, 0, none⟩), .agg es] w (ChP lo B (n + 1) (ch19 s x) w) := by
  have hBl : B < w.heap.size := (Array.getElem?_eq_some_iff.1 hg).1
  have hlw : lo ≤ w.heap.size := by omega
  have i := h.ig
  have e0 := he.c0
  rw [hk] at e0
  obtain ⟨ta, tc, t1, _⟩ := h.tm
  have o1 : ∀ q, q ≠ 2 → q ≠ 3 → (cs1 cs s.count x.t)[q]? = cs[q]? := fun q h2 h3 => puts_ne (by simp; omega)
  have d2 : (cs1 cs s.count x.t)[2]? = some (.int .i64 (wrap64 (s.count + 1))) := by simp [cs1, puts, i.size]
  have f := fun q v (h2 : q ≠ 2) (h3 : q ≠ 3) (hq : cs[q]? = some v) => (o1 q h2 h3).trans hq
  refine chgC19 B cs es s.count s.time x.t w (PuP B (cs1 cs s.count x.t) [(16, .int .i64 0), (17, .int .i64 0), (18, .int .i64 0), (19, .int .i64 0), (20, .int .i64 0), (23, .slice none 0 0), (1, .int .i64 6)]) _ hg i.c2 i.c3 he.size e0 he.c1 (fun W hw => end19 B _ es _ _ _ _ _ _ _ _ _ W hw.row (f 16 _ (by decide) (by decide) i.c16) (f 17 _ (by decide) (by decide) i.c17) (f 18 _ (by decide) (by decide) i.c18) (f 19 _ (by decide) (by decide) i.c19) (f 20 _ (by decide) (by decide) i.c20) (f 23 _ (by decide) (by decide) t1) (f 1 _ (by decide) (by decide) i.c1) e0) (fun W e W' hw0 h1 => ?_)
  obtain ⟨rfl, hw⟩ := h1
  have hrow := hw.row
  rw [cs1, ← puts_app] at hrow
  exact ⟨rfl, rfl, _, hrow, og_end h hg (hw0.kb.trans hw.kb) (by simp [puts, i.size]) (puts_ne (by simp)) (fun hR => ig19 x h.ig hR) rfl rfl, (hw0.kb.trans hw.kb).below hlo hlw⟩
end Go.Proofs.Ytghclnpklindgaa
namespace Go.Proofs.Ytghclnpklindgaa
open Go.ChangeShapes Go.WideShapes Go.ChangeAt Go.RowKit
theorem ins_rel {α β : Type} {P : β → α → Prop} {us : List β} {l : List α} (hl : us.length = l.length) (h : ∀ (i : Nat) r u, us[i]? = some r → l[i]? = some u → P r u) {i : Nat} (hi : i ≤ l.length) {x : α} {y : β} (hxy : P y x) :
    ∀ (q : Nat) r u, (us.take i ++ y :: us.drop i)[q]? = some r → (l.take i ++ x :: l.drop i)[q]? = some u → P r u := by
  intro q r u hr hu
  have l1 : (us.take i).length = i := by rw [List.length_take]; omega
  have l2 : (l.take i).length = i := by rw [List.length_take]; omega
  rcases Nat.lt_trichotomy q i with hq | hq | hq
  · rw [List.getElem?_append_left (by omega), List.getElem?_take_of_lt hq] at hr hu
    exact h q r u hr hu
  · subst hq
    rw [List.getElem?_append_right (by omega), l1, Nat.sub_self] at hr
    rw [List.getElem?_append_right (by omega), l2, Nat.sub_self] at hu
    cases hr
    cases hu
    exact hxy
  · obtain ⟨k, rfl⟩ : ∃ k, q = i + 1 + k := ⟨q - (i + 1), by omega⟩
    rw [List.getElem?_append_right (by omega), l1, show i + 1 + k - i = k + 1 by omega, List.getElem?_cons_succ, List.getElem?_drop] at hr
    rw [List.getElem?_append_right (by omega), l2, show i + 1 + k - i = k + 1 by omega, List.getElem?_cons_succ, List.getElem?_drop] at hu
    exact h _ r u hr hu
theorem zE_isP (ok : Nat → Prop) (w : World) (n : Nat) : IsP ok w (n + 1) (.agg #[.int .i64 0, .int .i64 0, .int .u64 0, .string ⟨#[]⟩, .slice none 0 0]) zE := by
  obtain ⟨a, c, hv, hf, _⟩ := zE_is w n
  cases hv
  exact ⟨none, 0, rfl, hf, fun i t h => by simp at h⟩
theorem chP9 (lo B n : Nat) (cs es : Array Value) (s : Sta) (x : Ev) (w : World) (hg : w.heap[B]? = some (.cells cs 37 (0, 0))) (h : Og (fun b => b ≠ B) lo w (n + 1) cs s) (he : IsEv (IsP (Vk (fun b => b ≠ B) lo w cs) w (n + 1)) es x) (hlo : lo ≤ B) (hk : x.k = 9) (lt : s.tm.length ≤ 500) :
    Calls Try.prog 21 #[.pointer (some ⟨B, 0, none⟩), .agg es] w (ChP lo B (n + 1) (ch9 s x) w) := by
  have hBl : B < w.heap.size := (Array.getElem?_eq_some_iff.1 hg).1
  have hlw : lo ≤ w.heap.size := by omega
  have i := h.ig
  have e0 := he.c0
  rw [hk] at e0
  obtain ⟨a, c, t1, t2⟩ := h.tm
  have o1 : ∀ q, q ≠ 2 → q ≠ 3 → (cs1 cs s.count x.t)[q]? = cs[q]? := fun q h2 h3 => puts_ne (by simp; omega)
  have f := fun q v (h2 : q ≠ 2) (h3 : q ≠ 3) (hq : cs[q]? = some v) => (o1 q h2 h3).trans hq
  have key := fun (W : World) (hw : WrS B w W (cs1 cs s.count x.t)) => timers9 lo B _ es s.tm a c x.s x.d W hw.row (f 23 _ (by decide) (by decide) t1) (owns_blk t2 (Nat.le_refl _) fun b hb => ne_blk hw.kb (t2.lt b hb).2 (fun e => box_ne t2 (by decide) hg (by rw [← e]; exact hb))) lt hlo e0 he.c3 he.c4
  have er : (insL (fun d => gtS d.s x.s) s.tm ⟨x.s, x.d⟩).map Tm.cells = (ch9 s x).tm.map Tm.cells := rfl
  rw [er] at key
  generalize hrw : (ch9 s x).tm.map Tm.cells = rows at key
  refine chgC9 B cs es s.count s.time x.t w (LsP lo B (cs1 cs s.count x.t) 23 50 2 (.slice a s.tm.length c) rows []) _ hg i.c2 i.c3 he.size e0 he.c1 key (fun W e W' hw0 h1 => ?_)
  obtain ⟨rfl, v, hrow, hl⟩ := h1
  have hl' := hl.from hw0.kb hlo hlw
  rw [← hrw] at hl'
  have hrow' : W'.heap[B]? = some (.cells (puts cs [(2, .int .i64 (wrap64 (s.count + 1))), (3, .int .i64 x.t), (23, v)]) 37 (0, 0)) := hrow
  exact ⟨rfl, rfl, _, hrow', og_tm h hg t1 hl' (by simp [puts, i.size]) (puts_ne (by simp)) (fun hR => ig9 x v h.ig hR) rfl, hl'.bel⟩
theorem chP10 (lo B n : Nat) (cs es : Array Value) (s : Sta) (x : Ev) (w : World) (hg : w.heap[B]? = some (.cells cs 37 (0, 0))) (h : Og (fun b => b ≠ B) lo w (n + 1) cs s) (he : IsEv (IsP (Vk (fun b => b ≠ B) lo w cs) w (n + 1)) es x) (hlo : lo ≤ B) (hk : x.k = 10) (lt : s.tm.length ≤ 500) (j : Nat) (hz : tmAt s x.s = (j : Int)) (hj : j < s.tm.length) :
    Calls Try.prog 21 #[.pointer (some ⟨B, 0, none⟩), .agg es] w (ChP lo B (n + 1) (ch10 s x) w) := by
  have hBl : B < w.heap.size := (Array.getElem?_eq_some_iff.1 hg).1
  have hlw : lo ≤ w.heap.size := by omega
  have i := h.ig
  have e0 := he.c0
  rw [hk] at e0
  obtain ⟨a, c, t1, t2⟩ := h.tm
  have o1 : ∀ q, q ≠ 2 → q ≠ 3 → (cs1 cs s.count x.t)[q]? = cs[q]? := fun q h2 h3 => puts_ne (by simp; omega)
  have f := fun q v (h2 : q ≠ 2) (h3 : q ≠ 3) (hq : cs[q]? = some v) => (o1 q h2 h3).trans hq
  have hOg : ∀ W, WrS B w W (cs1 cs s.count x.t) → Og (fun b => b ≠ B) lo W (n + 1) (cs1 cs s.count x.t) (ch14 s x) := fun W hw => og_same h hg hw.kb (puts_ne (by simp)) (puts_ne (by simp)) (fun hR => ig14 x h.ig hR) rfl rfl
  have ej : (tmAt s x.s).toNat = j := by rw [hz]; simp
  have hR97 : ∀ W, WrS B w W (cs1 cs s.count x.t) → Hid (∀ W', Below W.heap.size W W' → Calls Try.prog 37 #[.agg (cs1 cs s.count x.t), .string x.s] W' (IxP (j : Int) W')) := fun W hw W' hB => by
    have := timerAt_calls (n + 1) (cs1 cs s.count x.t) (ch14 s x) x.s W' ((hOg W hw).ps.rs.below hB) (show s.tm.length ≤ 1000 by omega)
    rw [show tmAt (ch14 s x) x.s = (j : Int) from hz] at this
    exact this
  refine chgC10 B cs es s.count s.time x.t w (LsP lo B (cs1 cs s.count x.t) 23 50 2 (.slice a s.tm.length c) ((delL s.tm j).map Tm.cells) [(21, .bool true)]) _ hg i.c2 i.c3 he.size e0 he.c1 (fun W hw => timers10 lo B _ es s.tm a c x.s j s.fresh W hw.row (by rw [cs1, puts_size]; exact i.size) (f 21 _ (by decide) (by decide) i.c21) (f 23 _ (by decide) (by decide) t1) (owns_blk t2 (Nat.le_refl _) fun b hb => ne_blk hw.kb (t2.lt b hb).2 (fun e => box_ne t2 (by decide) hg (by rw [← e]; exact hb))) lt hlo hj (hR97 W hw) e0 he.c4) (fun W e W' hw0 h1 => ?_)
  obtain ⟨rfl, v, hrow, hl⟩ := h1
  have hl' := hl.from hw0.kb hlo hlw
  rw [← ej] at hl'
  have hrow' : W'.heap[B]? = some (.cells (puts cs [(2, .int .i64 (wrap64 (s.count + 1))), (3, .int .i64 x.t), (23, v), (21, .bool true)]) 37 (0, 0)) := hrow
  exact ⟨rfl, rfl, _, hrow', og_tm h hg t1 hl' (by simp [puts, i.size]) (puts_ne (by simp)) (fun hR => ig10 x v h.ig hR) rfl, hl'.bel⟩
theorem chP11 (lo B n : Nat) (cs es : Array Value) (s : Sta) (x : Ev) (w : World) (hg : w.heap[B]? = some (.cells cs 37 (0, 0))) (h : Og (fun b => b ≠ B) lo w (n + 1) cs s) (he : IsEv (IsP (Vk (fun b => b ≠ B) lo w cs) w (n + 1)) es x) (hlo : lo ≤ B) (hk : x.k = 11) (lt : s.tm.length ≤ 500) (j : Nat) (hz : tmAt s x.s = (j : Int)) (hj : j < s.tm.length) :
    Calls Try.prog 21 #[.pointer (some ⟨B, 0, none⟩), .agg es] w (ChP lo B (n + 1) (ch11 s x) w) := by
  have hBl : B < w.heap.size := (Array.getElem?_eq_some_iff.1 hg).1
  have hlw : lo ≤ w.heap.size := by omega
  have i := h.ig
  have e0 := he.c0
  rw [hk] at e0
  obtain ⟨a, c, t1, t2⟩ := h.tm
  have o1 : ∀ q, q ≠ 2 → q ≠ 3 → (cs1 cs s.count x.t)[q]? = cs[q]? := fun q h2 h3 => puts_ne (by simp; omega)
  have f := fun q v (h2 : q ≠ 2) (h3 : q ≠ 3) (hq : cs[q]? = some v) => (o1 q h2 h3).trans hq
  have hOg : ∀ W, WrS B w W (cs1 cs s.count x.t) → Og (fun b => b ≠ B) lo W (n + 1) (cs1 cs s.count x.t) (ch14 s x) := fun W hw => og_same h hg hw.kb (puts_ne (by simp)) (puts_ne (by simp)) (fun hR => ig14 x h.ig hR) rfl rfl
  have ej : (tmAt s x.s).toNat = j := by rw [hz]; simp
  have hR97 : ∀ W, WrS B w W (cs1 cs s.count x.t) → Hid (∀ W', Below W.heap.size W W' → Calls Try.prog 37 #[.agg (cs1 cs s.count x.t), .string x.s] W' (IxP (j : Int) W')) := fun W hw W' hB => by
    have := timerAt_calls (n + 1) (cs1 cs s.count x.t) (ch14 s x) x.s W' ((hOg W hw).ps.rs.below hB) (show s.tm.length ≤ 1000 by omega)
    rw [show tmAt (ch14 s x) x.s = (j : Int) from hz] at this
    exact this
  refine chgC11 B cs es s.count s.time x.t w (LsP lo B (cs1 cs s.count x.t) 23 50 2 (.slice a s.tm.length c) ((delL s.tm j).map Tm.cells) []) _ hg i.c2 i.c3 he.size e0 he.c1 (fun W hw => timers11 lo B _ es s.tm a c x.s j s.fresh W hw.row (by rw [cs1, puts_size]; exact i.size) (f 21 _ (by decide) (by decide) i.c21) (f 23 _ (by decide) (by decide) t1) (owns_blk t2 (Nat.le_refl _) fun b hb => ne_blk hw.kb (t2.lt b hb).2 (fun e => box_ne t2 (by decide) hg (by rw [← e]; exact hb))) lt hlo hj (hR97 W hw) e0 he.c4) (fun W e W' hw0 h1 => ?_)
  obtain ⟨rfl, v, hrow, hl⟩ := h1
  have hl' := hl.from hw0.kb hlo hlw
  rw [← ej] at hl'
  have hrow' : W'.heap[B]? = some (.cells (puts cs [(2, .int .i64 (wrap64 (s.count + 1))), (3, .int .i64 x.t), (23, v)]) 37 (0, 0)) := hrow
  exact ⟨rfl, rfl, _, hrow', og_tm h hg t1 hl' (by simp [puts, i.size]) (puts_ne (by simp)) (fun hR => ig11 x v h.ig hR) rfl, hl'.bel⟩
theorem chP12 (lo B n : Nat) (cs es : Array Value) (s : Sta) (x : Ev) (w : World) (hg : w.heap[B]? = some (.cells cs 37 (0, 0))) (h : Og (fun b => b ≠ B) lo w (n + 1) cs s) (he : IsEv (IsP (Vk (fun b => b ≠ B) lo w cs) w (n + 1)) es x) (hlo : lo ≤ B) (hk : x.k = 12) (lu : s.up.length ≤ 500) :
    Calls Try.prog 21 #[.pointer (some ⟨B, 0, none⟩), .agg es] w (ChP lo B (n + 1) (ch12 s x) w) := by
  have hBl : B < w.heap.size := (Array.getElem?_eq_some_iff.1 hg).1
  have hlw : lo ≤ w.heap.size := by omega
  have i := h.ig
  have e0 := he.c0
  rw [hk] at e0
  obtain ⟨a, c, us, u1, u2, u3, u4⟩ := h.up
  have hus : ∀ (i : Nat) r, us[i]? = some r → r.size = 12 ∧ ∀ (j : Nat) (v : Value), r[j]? = some v → v.oneCell' = true := fun i r hr => by
    have hi := (List.getElem?_eq_some_iff.1 hr).1
    have := u4 i r _ hr (List.getElem?_eq_getElem (by omega))
    exact ⟨this.size, this.one⟩
  obtain ⟨k0, x0, b0, s0, a0, m0, n0, v5, v6, v7, v8, v9, hv⟩ := he.v
  have o1 : ∀ q, q ≠ 2 → q ≠ 3 → (cs1 cs s.count x.t)[q]? = cs[q]? := fun q h2 h3 => puts_ne (by simp; omega)
  have f := fun q v (h2 : q ≠ 2) (h3 : q ≠ 3) (hq : cs[q]? = some v) => (o1 q h2 h3).trans hq
  refine chgC12 B cs es s.count s.time x.t w (LsP lo B (cs1 cs s.count x.t) 24 52 12 (.slice a s.up.length c) (us.take (insI (fun d => gtS d.s x.s) s.up) ++ #[.string x.s, .int .i64 k0, .int .i64 x0, .int .u64 b0, .string s0, .slice a0 m0 n0, .int .i64 1, .int .i64 0, .int .i64 0, .int .u64 0, .string ⟨#[]⟩, .slice none 0 0] :: us.drop (insI (fun d => gtS d.s x.s) s.up)) []) _ hg i.c2 i.c3 he.size e0 he.c1 (fun W hw => updates12 lo B _ es s.up us a c x.s k0 x0 b0 s0 a0 m0 n0 W hw.row (f 24 _ (by decide) (by decide) u1) (owns_blk u2 (Nat.le_refl _) fun b hb => ne_blk hw.kb (u2.lt b hb).2 (fun e => box_ne u2 (by decide) hg (by rw [← e]; exact hb))) u3 hus (fun i r u hr hu => (u4 i r u hr hu).uh) lu hlo e0 he.c4 v5 v6 v7 v8 v9) (fun W e W' hw0 h1 => ?_)
  obtain ⟨rfl, v, hrow, hl⟩ := h1
  have hl' := hl.from hw0.kb hlo hlw
  have hrow' : W'.heap[B]? = some (.cells (puts cs [(2, .int .i64 (wrap64 (s.count + 1))), (3, .int .i64 x.t), (24, v)]) 37 (0, 0)) := hrow
  have hil := insI_le (fun d : Up => gtS d.s x.s) s.up
  refine ⟨rfl, rfl, _, hrow', og_up h hg u1 hl' ?_ (puts_ne (by simp)) (by simp [puts, i.size]) (fun hR => ig12 x v h.ig hR) rfl (fun hR => ?_), hl'.bel⟩
  · show _ = (insL (fun d => gtS d.s x.s) s.up _).length
    rw [insL_length]
    simp
    omega
  · exact ins_rel u3 (fun i r u hr hu => (u4 i r u hr hu).map hR) hil ⟨rfl, rfl, ⟨k0, x0, b0, s0, a0, m0, n0, rfl, rfl, rfl, rfl, rfl, hR _ _ hv⟩, rfl, ⟨0, 0, 0, ⟨#[]⟩, none, 0, 0, rfl, rfl, rfl, rfl, rfl, zE_isP _ _ _⟩⟩
theorem chP13 (lo B n : Nat) (cs es : Array Value) (s : Sta) (x : Ev) (w : World) (hg : w.heap[B]? = some (.cells cs 37 (0, 0))) (h : Og (fun b => b ≠ B) lo w (n + 1) cs s) (he : IsEv (IsP (Vk (fun b => b ≠ B) lo w cs) w (n + 1)) es x) (hlo : lo ≤ B) (hk : x.k = 13) (lu : s.up.length ≤ 500) (j : Nat) (hz : waAt s x.s = (j : Int)) (hj : j < s.up.length) :
    Calls Try.prog 21 #[.pointer (some ⟨B, 0, none⟩), .agg es] w (ChP lo B (n + 1) (ch13 s x) w) := by
  have hBl : B < w.heap.size := (Array.getElem?_eq_some_iff.1 hg).1
  have hlw : lo ≤ w.heap.size := by omega
  have i := h.ig
  have e0 := he.c0
  rw [hk] at e0
  obtain ⟨a, c, us, u1, u2, u3, u4⟩ := h.up
  have hus : ∀ (i : Nat) r, us[i]? = some r → r.size = 12 ∧ ∀ (j : Nat) (v : Value), r[j]? = some v → v.oneCell' = true := fun i r hr => by
    have hi := (List.getElem?_eq_some_iff.1 hr).1
    have := u4 i r _ hr (List.getElem?_eq_getElem (by omega))
    exact ⟨this.size, this.one⟩
  obtain ⟨k0, x0, b0, s0, a0, m0, n0, v5, v6, v7, v8, v9, hv⟩ := he.v
  have o1 : ∀ q, q ≠ 2 → q ≠ 3 → (cs1 cs s.count x.t)[q]? = cs[q]? := fun q h2 h3 => puts_ne (by simp; omega)
  have f := fun q v (h2 : q ≠ 2) (h3 : q ≠ 3) (hq : cs[q]? = some v) => (o1 q h2 h3).trans hq
  have hOg : ∀ W, WrS B w W (cs1 cs s.count x.t) → Og (fun b => b ≠ B) lo W (n + 1) (cs1 cs s.count x.t) (ch14 s x) := fun W hw => og_same h hg hw.kb (puts_ne (by simp)) (puts_ne (by simp)) (fun hR => ig14 x h.ig hR) rfl rfl
  have ej : (waAt s x.s).toNat = j := by rw [hz]; simp
  have hR98 : ∀ W, WrS B w W (cs1 cs s.count x.t) → Hid (∀ W', Below W.heap.size W W' → Calls Try.prog 39 #[.agg (cs1 cs s.count x.t), .string x.s] W' (IxP (j : Int) W')) := fun W hw W' hB => by
    have := waitingAt_calls (n + 1) (cs1 cs s.count x.t) (ch14 s x) x.s W' ((hOg W hw).ps.rs.below hB) (show s.up.length ≤ 1000 by omega)
    rw [show waAt (ch14 s x) x.s = (j : Int) from hz] at this
    exact this
  obtain ⟨r, hr⟩ : ∃ r, us[j]? = some r := ⟨_, List.getElem?_eq_getElem (by omega)⟩
  obtain ⟨u, hu⟩ : ∃ u, s.up[j]? = some u := ⟨_, List.getElem?_eq_getElem hj⟩
  have hIU := u4 j r u hr hu
  obtain ⟨k1, x1, b1, s1, a1, l1, n1, r7, r8, r9, r10, r11, _⟩ := hIU.o
  obtain ⟨UB, rfl⟩ : ∃ UB, a = some ⟨UB, 0, none⟩ := by
    obtain ⟨_, ⟨_, h0⟩ | ⟨g, cap, cur, h1, _⟩⟩ := u2
    · omega
    · cases h1
      exact ⟨g, rfl⟩
  refine chgC13 B cs es s.count s.time x.t w (OuP lo B UB s.up.length c (cs1 cs s.count x.t) (us.set j (endU r [.int .i64 2, .int .i64 k0, .int .i64 x0, .int .u64 b0, .string s0, .slice a0 m0 n0]))) _ hg i.c2 i.c3 he.size e0 he.c1 (fun W hw => updates13 lo B UB s.up.length c _ es us x.s j r u.g k1 x1 b1 s1 a1 l1 n1 k0 x0 b0 s0 a0 m0 n0 W hw.row (by rw [cs1, puts_size]; exact i.size) (f 24 _ (by decide) (by decide) u1) (owns_blk u2 (Nat.le_refl _) fun b hb => ne_blk hw.kb (u2.lt b hb).2 (fun e => box_ne u2 (by decide) hg (by rw [← e]; exact hb))) u3 (fun i r hr => (hus i r hr).1) lu hlo hr hIU.c6 r7 r8 r9 r10 r11 (hR98 W hw) e0 he.c4 v5 v6 v7 v8 v9) (fun W e W' hw0 h1 => ?_)
  obtain ⟨rfl, hrow, hown, hbel, hkeep⟩ := h1
  have hs0 := hw0.kb.2.2.2.1
  have hl' : Lw lo B 52 12 (.slice (some ⟨UB, 0, none⟩) s.up.length c) (us.set j (endU r [.int .i64 2, .int .i64 k0, .int .i64 x0, .int .u64 b0, .string s0, .slice a0 m0 n0])) w (.slice (some ⟨UB, 0, none⟩) s.up.length c) W' := ⟨by rw [List.length_set, u3]; exact hown, (hw0.kb.below hlo hlw).trans hbel, fun B' b1 b2 b3 => (hkeep B' (by omega) (fun e => b3 (by rw [e]; rfl))).trans (ne_blk hw0.kb b1 b2), .inl rfl⟩
  have hsz := hIU.size
  refine ⟨rfl, rfl, _, hrow, og_up h hg u1 hl' ?_ (puts_ne (by simp)) ((puts_ne (by simp)).trans u1) (fun hR => ig13 x h.ig hR) rfl (fun hR => ?_), hl'.bel⟩
  · show _ = (s.up.modify _ _).length
    simp [u3]
  · intro q r' u' hr' hu'
    have hu2 : (s.up.modify j (fun u => { u with g := 2, o := x.v }))[q]? = some u' := by
      have : (ch13 s x).up = s.up.modify j (fun u => { u with g := 2, o := x.v }) := by rw [← ej]; rfl
      rw [← this]
      exact hu'
    rw [List.getElem?_set] at hr'
    rw [List.getElem?_modify] at hu2
    by_cases hq : j = q
    · subst hq
      simp only [show j < us.length by omega, if_true, Option.some.injEq] at hr'
      have hue : u' = { u with g := 2, o := x.v } := by simpa [hu, eq_comm] using hu2
      subst hue
      subst hr'
      have o := hIU.map hR
      exact ⟨endU_size hsz rfl, (endU_lo hsz (by decide)).trans o.c0, o.v.other fun q h1 h2 => endU_lo hsz (by omega), endU_hi (j := 0) hsz, ⟨k0, x0, b0, s0, a0, m0, n0, endU_hi (j := 1) hsz, endU_hi (j := 2) hsz, endU_hi (j := 3) hsz, endU_hi (j := 4) hsz, endU_hi (j := 5) hsz, hR _ _ hv⟩⟩
    · rw [if_neg hq] at hr'
      simp only [if_neg hq] at hu2
      exact (u4 q r' u' hr' (by simpa using hu2)).map hR
theorem change_calls (lo B n : Nat) (cs es : Array Value) (s : Sta) (x : Ev) (w : World) (hg : w.heap[B]? = some (.cells cs 37 (0, 0))) (h : Og (fun b => b ≠ B) lo w (n + 1) cs s) (he : IsEv (IsP (Vk (fun b => b ≠ B) lo w cs) w (n + 1)) es x) (hlo : lo ≤ B) (hk : 1 ≤ x.k ∧ x.k ≤ 19) (hf : fitsB s x = true) (lt : s.tm.length ≤ 500) (lu : s.up.length ≤ 500) :
    Calls Try.prog 21 #[.pointer (some ⟨B, 0, none⟩), .agg es] w (ChP lo B (n + 1) (chg s x) w) := by
  have hc : x.k = 1 ∨ x.k = 2 ∨ x.k = 3 ∨ (x.k = 4 ∨ x.k = 5 ∨ x.k = 6) ∨ x.k = 7 ∨ x.k = 8 ∨ x.k = 9 ∨ x.k = 10 ∨ x.k = 11 ∨ x.k = 12 ∨ x.k = 13 ∨ x.k = 14 ∨ x.k = 15 ∨ x.k = 16 ∨ x.k = 17 ∨ x.k = 18 ∨ x.k = 19 := by omega
  rcases hc with k | k | k | k | k | k | k | k | k | k | k | k | k | k | k | k | k
  · rw [chg_1 s x k]
    exact chP1 lo B n cs es s x w hg h he hlo k
  · rw [chg_2 s x k]
    exact chP2 lo B n cs es s x w hg h he hlo k
  · rw [chg_3 s x k]
    exact chP3 lo B n cs es s x w hg h he hlo k
  · rw [chg_from s x k]
    by_cases hn : 0 < x.n
    · rw [if_pos hn]
      rcases k with k | k | k
      · exact chP4b lo B n cs es s x w hg h he hlo k hn
      · exact chP5b lo B n cs es s x w hg h he hlo k hn
      · exact chP6b lo B n cs es s x w hg h he hlo k hn
    · rw [if_neg hn]
      rcases k with k | k | k
      · exact chP4a lo B n cs es s x w hg h he hlo k hn
      · exact chP5a lo B n cs es s x w hg h he hlo k hn
      · exact chP6a lo B n cs es s x w hg h he hlo k hn
  · rw [chg_7 s x k]
    exact chP7 lo B n cs es s x w hg h he hlo k
  · rw [chg_8 s x k]
    exact chP8 lo B n cs es s x w hg h he hlo k
  · rw [chg_9 s x k]
    exact chP9 lo B n cs es s x w hg h he hlo k lt
  · rw [chg_10 s x k]
    rcases ixI_cases (fun d : Tm => eqS d.s x.s) s.tm with ⟨j, d, g1, g2, _⟩ | ⟨g1, _⟩
    · exact chP10 lo B n cs es s x w hg h he hlo k lt j g1 (List.getElem?_eq_some_iff.1 g2).1
    · have g1' : tmAt s x.s = -1 := g1
      simp [fitsB, k, g1', dueB] at hf
      revert hf
      cases s.tm[0]? <;> simp
  · rw [chg_11 s x k]
    rcases ixI_cases (fun d : Tm => eqS d.s x.s) s.tm with ⟨j, d, g1, g2, _⟩ | ⟨g1, _⟩
    · exact chP11 lo B n cs es s x w hg h he hlo k lt j g1 (List.getElem?_eq_some_iff.1 g2).1
    · have g1' : tmAt s x.s = -1 := g1
      simp [fitsB, k, g1'] at hf
  · rw [chg_12 s x k]
    exact chP12 lo B n cs es s x w hg h he hlo k lu
  · rw [chg_13 s x k]
    rcases ixI_cases (fun d : Up => eqS d.s x.s && (d.g == 1)) s.up with ⟨j, d, g1, g2, _⟩ | ⟨g1, _⟩
    · exact chP13 lo B n cs es s x w hg h he hlo k lu j g1 (List.getElem?_eq_some_iff.1 g2).1
    · have g1' : waAt s x.s = -1 := g1
      simp [fitsB, k, g1'] at hf
  · rw [chg_14 s x k]
    exact chP14 lo B n cs es s x w hg h he hlo k
  · rw [chg_15 s x k]
    exact chP15 lo B n cs es s x w hg h he hlo k
  · rw [chg_16 s x k]
    exact chP16 lo B n cs es s x w hg h he hlo k
  · rw [chg_17 s x k]
    exact chP17 lo B n cs es s x w hg h he hlo k
  · rw [chg_18 s x k]
    exact chP18 lo B n cs es s x w hg h he hlo k
  · rw [chg_19 s x k]
    exact chP19 lo B n cs es s x w hg h he hlo k
end Go.Proofs.Ytghclnpklindgaa
namespace Go.Proofs.Ytghclnpklindgaa
open Go.ChangeShapes Go.WideShapes Go.ChangeAt Go.RowKit
theorem ret_cell_tmp {fn : Func} {p q : Tmp} {ty : TypeId} (h : fn.results = #[.cell p ty, .tmp q]) (tmps : Array Value) {w : World} {v u : Value} {a : Addr} (hp : tmps.getD p undef = .pointer (some a)) (hq : tmps.getD q undef = u) (hl : (loadVar ty a).run Try.prog w = .ok v w) : (results fn tmps).run Try.prog w = .ok (.tuple #[v, u]) w := by
  have hp' : tmps[p]?.getD undef = .pointer (some a) := by simpa using hp
  have hq' : tmps[q]?.getD undef = u := by simpa using hq
  simp [results, h, hp', hq', asAddr, hl]
/-- What Step tells: the state and the code. -/
def StR (n : Nat) (s : Sta) (x : Ev) (s' : Sta) (code : Int) : Prop := (MayE n x → code = refC s x) ∧ (¬ MayE n x → code = 1) ∧ s' = if code = 0 then chg s x else s
theorem StR.det {n : Nat} {s s1 s2 : Sta} {x : Ev} {c1 c2 : Int} (h1 : StR n s x s1 c1) (h2 : StR n s x s2 c2) : c1 = c2 ∧ s1 = s2 := by
  obtain ⟨a1, b1, d1⟩ := h1
  obtain ⟨a2, b2, d2⟩ := h2
  have e : c1 = c2 := by
    by_cases hm : MayE n x
    · rw [a1 hm, a2 hm]
    · rw [b1 hm, b2 hm]
  subst e
  exact ⟨rfl, d1.trans d2.symm⟩
def StG (n : Nat) (s : Sta) (x : Ev) (w : World) (e : Ending) (w' : World) : Prop :=
  (∃ cs' code s', e = .returned (.tuple #[.agg cs', .int .i64 code]) ∧ StR (n + 1) s x s' code ∧ Ps (Free w.heap.size w') w' (n + 1) cs' s') ∧ Below w.heap.size w w'
theorem refC_fits {s : Sta} {x : Ev} (h : refC s x = 0) : fitsB s x = true ∧ roomB s x = true ∧ s.count < 120 ∧ inT s x = true ∧ s.time ≤ x.t := by
  unfold refC at h
  split at h
  · omega
  · split at h
    · omega
    · split at h
      · omega
      · split at h
        · omega
        · split at h
          · omega
          · rename_i h1 h2 h3 h4 h5
            exact ⟨by simpa using h4, by simpa using h5, by omega, by simpa using h2, by omega⟩
theorem MayE.kind {n : Nat} {x : Ev} (h : MayE n x) : 1 ≤ x.k ∧ x.k ≤ 19 := by
  have := h.1
  simp [wi] at this
  exact this
/-- A clone ahead of the box B. -/
theorem Og.box {lo B n : Nat} {w w' : World} {cs : Array Value} {s : Sta} (h : Og (fun _ => True) lo w n cs s) (hb : Below w.heap.size w w') (hB : w.heap.size ≤ B) : Og (fun b => b ≠ B) lo w' n cs s := by
  have hR : ∀ v t, IsP (Vk (fun _ => True) lo w cs) w n v t → IsP (Vk (fun b => b ≠ B) lo w' cs) w' n v t := fun v t hv => hv.keep (fun b hlt hk => ⟨by omega, free_keep (hb.block b hlt) hk.2.1, hk.2.2⟩) (fun b hlt _ => hb.block b hlt)
  obtain ⟨a, c, t1, t2⟩ := h.tm
  obtain ⟨ua, uc, us, u1, u2, u3, u4⟩ := h.up
  exact ⟨h.ig.map hR, ⟨a, c, t1, owns_blk t2 (Nat.le_refl _) fun b hb' => hb.block b (t2.lt b hb').2⟩, ⟨ua, uc, us, u1, owns_blk u2 (Nat.le_refl _) fun b hb' => hb.block b (u2.lt b hb').2, u3, fun i r u hr hu => (u4 i r u hr hu).map hR⟩⟩
theorem Og.nb {ok : Nat → Prop} {lo n : Nat} {w : World} {cs : Array Value} {s : Sta} (h : Og ok lo w n cs s) {b : Nat} (hb : w.heap.size ≤ b) : Nb cs b := fun v hv e => by
  obtain ⟨a, c, t1, t2⟩ := h.tm
  obtain ⟨ua, uc, us, u1, u2, _, _⟩ := h.up
  rcases hv with hv | hv
  · rw [t1] at hv; cases hv
    have := (t2.lt b e).2
    omega
  · rw [u1] at hv; cases hv
    have := (u2.lt b e).2
    omega
theorem Ps.low {lo lo' n g : Nat} {w w' : World} {cs : Array Value} {s : Sta} (h : Ps (Free lo w) w n cs s) (hl : lo' ≤ lo) (hk : KB g w w') (hg : g < lo) : Ps (Free lo' w') w' n cs s :=
  h.keep (fun B hB hf => free_keep (ne_blk hk hB (by have := hf.1; omega)) ⟨by have := hf.1; omega, hf.2⟩) fun B hB hf => ne_blk hk hB (by have := hf.1; omega)
set_option maxHeartbeats 4000000 in
set_option maxRecDepth 100000 in
theorem step_calls (n : Nat) (cs es : Array Value) (s : Sta) (x : Ev) (w : World) (h : Rs w (n + 1) cs s) (he : IsEv (Is w (n + 1)) es x) (hc : x.c < 18446744073709551616) (sm : SmS (n + 1) s) (sx : SmallW (n + 1) x.v) (lt : s.tm.length ≤ 500) (lu : s.up.length ≤ 500) :
    Calls Try.prog 18 #[.agg cs, .agg es] w (StG n s x w) := by
  have KC : Hid (∀ W, Below w.heap.size w W → Calls Try.prog 11 #[.agg cs] W (ClS (n + 1) W s)) := fun W hB => sclone_calls (n + 1) cs s W (h.below hB) sm (by omega) (by omega)
  have KR : Hid (∀ W, Below w.heap.size w W → Calls Try.prog 20 #[.agg cs, .agg es] W (RfP (MayE (n + 1) x) s x W)) := fun W hB => refusal_calls n cs es s x W (h.below hB) (he.map fun v t h => h.below hB) hc (by omega) (by omega)
  have KE : Hid (∀ W, Below w.heap.size w W → Calls Try.prog 22 #[.agg es] W (EcP (n + 1) W x)) := fun W hB => evcloneA (n + 1) es x W (he.map fun v t h => h.below hB) sx
  have hi33 := info33s cs h.size
  have hi46 := info46s es he.size
  have HQ : Hid (∀ cs' code s' w', StR (n + 1) s x s' code → Ps (Free w.heap.size w') w' (n + 1) cs' s' → Below w.heap.size w w' → StG n s x w (.returned (.tuple #[.agg cs', .int .i64 code])) w') := fun cs' code s' w' a b c => ⟨⟨cs', code, s', rfl, a, b⟩, c⟩
  have HL : Hid (s.tm.length ≤ 500 ∧ s.up.length ≤ 500) := ⟨lt, lu⟩
  clear h he hc sm sx lt lu
  generalize StG n s x w = Q at HQ ⊢
  go_enter Try.func18, Try.ntmps18
  have b0 : Hid (Below w.heap.size w (((w.alloc (.cells cs 37)).alloc (.cells es 45)).alloc (.cells zS 37))) := bel2 (bel2 (bel1 _ _) (bel1 _ _)) (bel1 _ _)
  have r0 : (((w.alloc (.cells cs 37)).alloc (.cells es 45)).alloc (.cells zS 37)).heap[w.heap.size]? = some (.cells cs 37 (0, 0)) := row_below (bel1 _ _) (heap_alloc2_old _ _ _)
  have r1 : (((w.alloc (.cells cs 37)).alloc (.cells es 45)).alloc (.cells zS 37)).heap[w.heap.size + 1]? = some (.cells es 45 (0, 0)) := row_below (bel1 _ _) (heap_alloc2_new _ _ _)
  have r2 : (((w.alloc (.cells cs 37)).alloc (.cells es 45)).alloc (.cells zS 37)).heap[w.heap.size + 1 + 1]? = some (.cells zS 37 (0, 0)) := by
    have := heap_alloc_new ((w.alloc (.cells cs 37)).alloc (.cells es 45)) (.cells zS 37)
    simpa using this
  go_upto_region 1 with fail
  change Code.wp _ _ _ _ (((w.alloc (.cells cs 37)).alloc (.cells es 45)).alloc (.cells zS 37))
  generalize ((w.alloc (.cells cs 37)).alloc (.cells es 45)).alloc (.cells zS 37) = W0 at b0 r0 r1 r2 ⊢
  go_wp2_with (refine wpList_load_row rfl 37 _ rfl w.heap.size rfl 37 cs (0, 0) _ r0 Try.underlying37 rfl hi33 ?_)
  refine (KC.out _ b0.out).mono ?_
  rintro e w1 ⟨⟨c1, rfl, h1⟩, hb⟩
  have hi1 := info33s c1 h1.ig.size
  have z1 : zS.size = c1.size := h1.ig.size.symm
  have a1 := all_one h1.ps.one
  have b1 : Hid (Below w.heap.size w w1) := bel2 b0.out hb
  have s0 := row_below hb r0
  have s1 := row_below hb r1
  have s2 := row_below hb r2
  have H1 : Hid (Og (fun _ => True) W0.heap.size w1 (n + 1) c1 s) := h1
  have n1 : (w1.alloc (.cells zS 37)).heap[w1.heap.size]? = some (.cells zS 37 (0, 0)) := heap_alloc_new w1 _
  have HS1 : Hid (w.heap.size + 1 + 1 < W0.heap.size) := (Array.getElem?_eq_some_iff.1 r2).1
  have HL1 : Hid (W0.heap.size ≤ w1.heap.size) := hb.size
  clear hb r0 r1 r2 h1 KC
  go_upto_region 2 with (refine wpList_store_row rfl 37 _ _ rfl w1.heap.size c1 rfl rfl 37 zS n1 hi1 z1 a1 ?_)
  rw [World.setRow_alloc_new]
  have hb := bel1 w1 (.cells c1 37)
  have t0 := row_below hb s0
  have t1 := row_below hb s1
  have t2 := row_below hb s2
  have t3 : (w1.alloc (.cells c1 37)).heap[w1.heap.size]? = some (.cells c1 37 (0, 0)) := heap_alloc_new w1 _
  have b2 : Hid (Below w.heap.size w (w1.alloc (.cells c1 37))) := bel2 b1.out hb
  have H2 : Hid (Below w1.heap.size w1 (w1.alloc (.cells c1 37))) := hb
  have HZ2 : Hid (w1.heap.size < (w1.alloc (.cells c1 37)).heap.size) := by show _ < _; simp
  clear hb s0 s1 s2 n1
  generalize w1.alloc (.cells c1 37) = W2 at t0 t1 t2 t3 b2 H2 HZ2 ⊢
  go_wp2_with (first | refine wpList_load_row rfl 37 _ rfl w.heap.size rfl 37 cs (0, 0) _ t0 Try.underlying37 rfl hi33 ?_ | refine wpList_load_row rfl 45 _ rfl (w.heap.size + 1) rfl 45 es (0, 0) _ t1 Try.underlying45 rfl hi46 ?_)
  refine (KR.out _ b2.out).mono ?_
  rintro e w3 ⟨⟨r, rfl, hr1, hr2⟩, hb⟩
  have HRc : Hid ((MayE (n + 1) x → r = refC s x) ∧ (¬ MayE (n + 1) x → r = 1)) := ⟨hr1, hr2⟩
  have u1 := row_below hb t1
  have u2 := row_below hb t2
  have u3 := row_below hb t3
  have b3 : Hid (Below w.heap.size w w3) := bel2 b2.out hb
  have H3 : Hid (Below w1.heap.size w1 w3) := bel2 H2.out hb
  have HZ3 : Hid (w1.heap.size < w3.heap.size) := Nat.lt_of_lt_of_le HZ2.out hb.size
  clear hb t0 t1 t2 t3 H2 HZ2 hr1 hr2
  by_cases hr : r = 0
  · subst hr
    have HM : Hid (MayE (n + 1) x) := by
      show MayE (n + 1) x
      by_cases hm : MayE (n + 1) x
      · exact hm
      · have := HRc.out.2 hm
        omega
    go_wp2_with (refine wpList_load_row rfl 45 _ rfl (w.heap.size + 1) rfl 45 es (0, 0) _ u1 Try.underlying45 rfl hi46 ?_)
    refine (KE.out _ b3.out).mono ?_
    rintro e w4 ⟨⟨e1, rfl, h4⟩, hb⟩
    have v2 := row_below hb u2
    have v3 := row_below hb u3
    have b4 : Hid (Below w.heap.size w w4) := bel2 b3.out hb
    have H4 : Below w1.heap.size w1 w4 := bel2 H3.out hb
    have hz := HZ3.out
    have hn := H1.out
    have KG := change_calls W0.heap.size w1.heap.size n c1 e1 s x w4 v3 (H1.out.box H4 (Nat.le_refl _)) (h4.map fun v t hv => hv.keep (fun b _ hf => ⟨by have := hf.1; omega, ⟨by have := hf.1; have := HL1.out; omega, hf.2⟩, hn.nb (by have := hf.1; omega)⟩) (fun _ _ _ => rfl)) HL1.out HM.out.kind (refC_fits (HRc.out.1 HM.out).symm).1 HL.out.1 HL.out.2
    have KG2 : Hid (Calls Try.prog 21 #[.pointer (some ⟨w1.heap.size, 0, none⟩), .agg e1] w4 (ChP W0.heap.size w1.heap.size (n + 1) (chg s x) w4)) := KG
    have HW : Hid (W0.heap.size ≤ w4.heap.size) := Nat.le_trans HL1.out H4.size
    have HW0 : Hid (w.heap.size ≤ W0.heap.size) := b0.out.size
    clear hb u1 u2 u3 h4 H4 hz hn KG v3
    go_wp2_with fail
    refine KG2.out.mono ?_
    rintro e w5 ⟨rfl, c5, r5, o5, hb5⟩
    have v5 : w5.heap[w.heap.size + 1 + 1]? = some (.cells zS 37 (0, 0)) := by rw [hb5.block _ HS1.out]; exact v2
    have b5 : Hid (Below w.heap.size w w5) := b4.out.trans (hb5.mono HW0.out)
    have hi5 := info33s c5 o5.ig.size
    have z5 : zS.size = c5.size := o5.ig.size.symm
    have a5 := all_one o5.ps.one
    have HP5 : Hid (Ps (Free W0.heap.size w5) w5 (n + 1) c5 (chg s x)) := o5.ps
    clear KG2 v2 hb5 o5
    go_wp2_with (first | refine wpList_load_row rfl 37 _ rfl w1.heap.size rfl 37 c5 (0, 0) _ r5 Try.underlying37 rfl hi5 ?_ | refine wpList_store_row rfl 37 _ _ rfl (w.heap.size + 1 + 1) c5 rfl rfl 37 zS v5 hi5 z5 a5 ?_)
    have k9 := setRow_heap w5 (w.heap.size + 1 + 1) zS c5 37 (0, 0) v5
    have hl : (loadVar 37 ⟨w.heap.size + 1 + 1, 0, none⟩).run Try.prog (w5.setRow (w.heap.size + 1 + 1) c5) = .ok (.agg c5) (w5.setRow (w.heap.size + 1 + 1) c5) := run_loadVar_row _ (w.heap.size + 1 + 1) 37 37 c5 (0, 0) _ k9 Try.underlying37 rfl hi5
    exact bodyPost_ret (v := .tuple #[.agg c5, .int .i64 0]) (ret_cell_tmp Try.results18 _ rfl rfl hl) rfl (HQ.out c5 0 (chg s x) _ ⟨HRc.out.1, HRc.out.2, by rw [if_pos rfl]⟩ (HP5.out.low HW0.out (setRow_kb _ _ _) HS1.out) (below_setRow b5.out (by omega) _))
  · have HN : Hid (r ≠ 0) := hr
    have hre : (r == 0) = false := by simpa using hr
    have HP3 : Hid (Ps (Free W0.heap.size w3) w3 (n + 1) c1 s) := (H1.out.box H3.out (Nat.le_refl _)).ps
    have HW0 : Hid (w.heap.size ≤ W0.heap.size) := b0.out.size
    go_wp2_with (first | refine wpList_load_row rfl 37 _ rfl w1.heap.size rfl 37 c1 (0, 0) _ u3 Try.underlying37 rfl hi1 ?_ | refine wpList_store_row rfl 37 _ _ rfl (w.heap.size + 1 + 1) c1 rfl rfl 37 zS u2 hi1 z1 a1 ?_)
    have k9 := setRow_heap w3 (w.heap.size + 1 + 1) zS c1 37 (0, 0) u2
    have hl : (loadVar 37 ⟨w.heap.size + 1 + 1, 0, none⟩).run Try.prog (w3.setRow (w.heap.size + 1 + 1) c1) = .ok (.agg c1) (w3.setRow (w.heap.size + 1 + 1) c1) := run_loadVar_row _ (w.heap.size + 1 + 1) 37 37 c1 (0, 0) _ k9 Try.underlying37 rfl hi1
    exact bodyPost_ret (v := .tuple #[.agg c1, .int .i64 r]) (ret_cell_tmp Try.results18 _ rfl rfl hl) rfl (HQ.out c1 r s _ ⟨HRc.out.1, HRc.out.2, by rw [if_neg HN.out]⟩ (HP3.out.low HW0.out (setRow_kb _ _ _) HS1.out) (below_setRow b3.out (by omega) _))
end Go.Proofs.Ytghclnpklindgaa
namespace Go.Proofs.Ytghclnpklindgaa
open Go.ChangeShapes Go.WideShapes Go.ChangeAt Go.RowKit
/-- All of these events come. -/
def RunR (n : Nat) : List Ev → Sta → Sta → Prop
  | [], s, s' => s' = s
  | x :: l, s, s' => ∃ s1, StR n s x s1 0 ∧ RunR n l s1 s'
theorem RunR.append {n : Nat} : ∀ {l l' : List Ev} {s t s' : Sta}, RunR n l s t → RunR n l' t s' → RunR n (l ++ l') s s'
  | [], _, s, t, s', h, h' => by cases h; exact h'
  | x :: l, _, s, t, s', ⟨s1, h1, h2⟩, h' => ⟨s1, h1, RunR.append h2 h'⟩
theorem RunR.split {n : Nat} : ∀ {l l' : List Ev} {s s' : Sta}, RunR n (l ++ l') s s' → ∃ t, RunR n l s t ∧ RunR n l' t s'
  | [], _, s, s', h => ⟨s, rfl, h⟩
  | x :: l, _, s, s', ⟨s1, h1, h2⟩ => by
    obtain ⟨t, h3, h4⟩ := RunR.split (l := l) h2
    exact ⟨t, ⟨s1, h1, h3⟩, h4⟩
theorem RunR.det {n : Nat} : ∀ {l : List Ev} {s a b : Sta}, RunR n l s a → RunR n l s b → a = b
  | [], _, _, _, h, h' => h.trans h'.symm
  | x :: l, _, _, _, ⟨s1, h1, h2⟩, ⟨s2, h3, h4⟩ => by
    have := (h1.det h3).2
    subst this
    exact h2.det h4
/-- What a history comes to: the state, how many events were done, why no more. -/
def FoE (n : Nat) (s : Sta) (l : List Ev) (s' : Sta) (k : Nat) (code : Int) : Prop :=
  k ≤ l.length ∧ RunR n (l.take k) s s' ∧ ((k = l.length ∧ code = 0) ∨ ∃ x s2, l[k]? = some x ∧ StR n s' x s2 code ∧ code ≠ 0)
theorem take_succ_some {α : Type} {l : List α} {k : Nat} {x : α} (h : l[k]? = some x) : l.take (k + 1) = l.take k ++ [x] := by
  rw [List.take_add_one, h]
  rfl
theorem FoE.lt_no {n : Nat} {s a b : Sta} {l : List Ev} {k1 k2 : Nat} {c1 c2 : Int} (h1 : FoE n s l a k1 c1) (h2 : FoE n s l b k2 c2) (h : k1 < k2) : False := by
  obtain ⟨a1, a2, a3⟩ := h1
  obtain ⟨b1, b2, _⟩ := h2
  rcases a3 with ⟨e, _⟩ | ⟨x, s2, hx, hs, hc⟩
  · omega
  · have e : l.take k2 = l.take k1 ++ (x :: (l.take k2).drop (k1 + 1)) := by
      have h3 : (l.take k2).take (k1 + 1) = l.take k1 ++ [x] := by rw [List.take_take, Nat.min_eq_left (by omega), take_succ_some hx]
      have h4 := (List.take_append_drop (k1 + 1) (l.take k2)).symm
      rw [h3, List.append_assoc] at h4
      exact h4
    rw [e] at b2
    obtain ⟨t, h3, s3, h4, _⟩ := RunR.split b2
    have := a2.det h3
    subst this
    exact hc (hs.det h4).1
theorem FoE.det {n : Nat} {s a b : Sta} {l : List Ev} {k1 k2 : Nat} {c1 c2 : Int} (h1 : FoE n s l a k1 c1) (h2 : FoE n s l b k2 c2) : a = b ∧ k1 = k2 ∧ c1 = c2 := by
  rcases Nat.lt_trichotomy k1 k2 with h | h | h
  · exact (h1.lt_no h2 h).elim
  · subst h
    obtain ⟨a1, a2, a3⟩ := h1
    obtain ⟨_, b2, b3⟩ := h2
    have e := a2.det b2
    subst e
    refine ⟨rfl, rfl, ?_⟩
    rcases a3 with ⟨e1, e2⟩ | ⟨x, s2, hx, hs, _⟩
    · rcases b3 with ⟨_, e3⟩ | ⟨x, s2, hx, _⟩
      · rw [e2, e3]
      · rw [List.getElem?_eq_none (by omega)] at hx
        cases hx
    · rcases b3 with ⟨e3, _⟩ | ⟨y, s3, hy, hs', _⟩
      · rw [List.getElem?_eq_none (by omega)] at hx
        cases hx
      · rw [hx] at hy
        cases hy
        exact (hs.det hs').1
  · exact (h2.lt_no h1 h).elim
theorem FoE.stop {n : Nat} {s t : Sta} {l l' : List Ev} {m : Nat} {f : Int} (h : FoE n s l t m f) (hf : f ≠ 0) : FoE n s (l ++ l') t m f := by
  obtain ⟨a1, a2, a3⟩ := h
  rcases a3 with ⟨_, e⟩ | ⟨x, s2, hx, hs, hc⟩
  · exact (hf e).elim
  · have hlt := (List.getElem?_eq_some_iff.1 hx).1
    refine ⟨by simp; omega, ?_, .inr ⟨x, s2, ?_, hs, hc⟩⟩
    · rw [List.take_append_of_le_length (by omega)]
      exact a2
    · rw [List.getElem?_append_left hlt]
      exact hx
theorem FoE.more {n : Nat} {s t x : Sta} {l l' : List Ev} {m k : Nat} {g : Int} (h : FoE n s l t m 0) (h' : FoE n t l' x k g) : FoE n s (l ++ l') x (m + k) g := by
  obtain ⟨a1, a2, a3⟩ := h
  have hm : m = l.length := by
    rcases a3 with ⟨e, _⟩ | ⟨_, _, _, _, hc⟩
    · exact e
    · exact (hc rfl).elim
  obtain ⟨b1, b2, b3⟩ := h'
  subst hm
  rw [List.take_length] at a2
  refine ⟨by simp; omega, ?_, ?_⟩
  · rw [List.take_length_add_append]
    exact a2.append b2
  · rcases b3 with ⟨e1, e2⟩ | ⟨y, s2, hy, hs, hc⟩
    · exact .inl ⟨by simp; omega, e2⟩
    · exact .inr ⟨y, s2, by rw [List.getElem?_append_right (by omega), Nat.add_sub_cancel_left]; exact hy, hs, hc⟩
/-- What stays so while events come. -/
structure Sml (n : Nat) (s : Sta) : Prop where
  sm : SmS n s
  lt : s.tm.length ≤ 500
  lu : s.up.length ≤ 500
theorem Sml.chg {n : Nat} {s : Sta} {x : Ev} (h : Sml n s) (hx : SmallW n x.v) (hz : SmallW n zE) (hr : roomB s x = true) (hk : 1 ≤ x.k ∧ x.k ≤ 19) : Sml n (chg s x) := by
  have base : ∀ s' : Sta, s'.inp = s.inp → s'.res = s.res → s'.up = s.up → s'.tm = s.tm → Sml n s' := fun s' a b c d => ⟨⟨by rw [a]; exact h.sm.inp, by rw [b]; exact h.sm.res, fun i u hu => h.sm.up i u (by rw [← c]; exact hu)⟩, by rw [d]; exact h.lt, by rw [c]; exact h.lu⟩
  have ends : ∀ s' : Sta, s'.inp = s.inp → SmallW n s'.res → s'.up = s.up → s'.tm = [] → Sml n s' := fun s' a b c d => ⟨⟨by rw [a]; exact h.sm.inp, b, fun i u hu => h.sm.up i u (by rw [← c]; exact hu)⟩, by rw [d]; simp, by rw [c]; exact h.lu⟩
  have hc : x.k = 1 ∨ x.k = 2 ∨ x.k = 3 ∨ (x.k = 4 ∨ x.k = 5 ∨ x.k = 6) ∨ x.k = 7 ∨ x.k = 8 ∨ x.k = 9 ∨ x.k = 10 ∨ x.k = 11 ∨ x.k = 12 ∨ x.k = 13 ∨ x.k = 14 ∨ x.k = 15 ∨ x.k = 16 ∨ x.k = 17 ∨ x.k = 18 ∨ x.k = 19 := by omega
  rcases hc with k | k | k | k | k | k | k | k | k | k | k | k | k | k | k | k | k
  · rw [chg_1 s x k]
    exact ⟨⟨hx, h.sm.res, h.sm.up⟩, h.lt, h.lu⟩
  · rw [chg_2 s x k]
    exact base _ rfl rfl rfl rfl
  · rw [chg_3 s x k]
    exact base _ rfl rfl rfl rfl
  · rw [chg_from s x k]
    split
    · exact base _ rfl rfl rfl rfl
    · exact base _ rfl rfl rfl rfl
  · rw [chg_7 s x k]
    exact base _ rfl rfl rfl rfl
  · rw [chg_8 s x k]
    exact base _ rfl rfl rfl rfl
  · rw [chg_9 s x k]
    have : s.tm.length < 10 := by simpa [roomB, k] using hr
    refine ⟨⟨h.sm.inp, h.sm.res, h.sm.up⟩, ?_, h.lu⟩
    show (insL _ _ _).length ≤ 500
    rw [insL_length]
    omega
  · rw [chg_10 s x k]
    refine ⟨⟨h.sm.inp, h.sm.res, h.sm.up⟩, ?_, h.lu⟩
    show (delL _ _).length ≤ 500
    have := h.lt
    simp [delL]
    omega
  · rw [chg_11 s x k]
    refine ⟨⟨h.sm.inp, h.sm.res, h.sm.up⟩, ?_, h.lu⟩
    show (delL _ _).length ≤ 500
    have := h.lt
    simp [delL]
    omega
  · rw [chg_12 s x k]
    have : s.up.length < 10 := by simpa [roomB, k] using hr
    refine ⟨⟨h.sm.inp, h.sm.res, fun i u hu => ?_⟩, h.lt, ?_⟩
    · have hu : (insL (fun d => gtS d.s x.s) s.up ⟨x.s, x.v, 1, zE⟩)[i]? = some u := hu
      have hm := List.mem_of_getElem? hu
      simp only [insL, List.mem_append, List.mem_cons] at hm
      rcases hm with hm | rfl | hm
      · obtain ⟨j, hj⟩ := List.getElem?_of_mem (List.mem_of_mem_take hm)
        exact h.sm.up j u hj
      · exact ⟨hx, hz⟩
      · obtain ⟨j, hj⟩ := List.getElem?_of_mem (List.mem_of_mem_drop hm)
        exact h.sm.up j u hj
    · show (insL _ _ _).length ≤ 500
      rw [insL_length]
      omega
  · rw [chg_13 s x k]
    refine ⟨⟨h.sm.inp, h.sm.res, fun i u hu => ?_⟩, h.lt, ?_⟩
    · have hu : (s.up.modify (waAt s x.s).toNat (fun u => { u with g := 2, o := x.v }))[i]? = some u := hu
      rw [List.getElem?_modify] at hu
      cases ho : s.up[i]? with
      | none => rw [ho] at hu; cases hu
      | some o =>
        rw [ho] at hu
        have hs := h.sm.up i o ho
        by_cases e : (waAt s x.s).toNat = i
        · have : u = { o with g := 2, o := x.v } := by simpa [e, eq_comm] using hu
          subst this
          exact ⟨hs.1, hx⟩
        · have : u = o := by simpa [e, eq_comm] using hu
          subst this
          exact hs
    · show (s.up.modify _ _).length ≤ 500
      simp
      exact h.lu
  · rw [chg_14 s x k]
    exact base _ rfl rfl rfl rfl
  · rw [chg_15 s x k]
    exact ends _ rfl hx rfl rfl
  · rw [chg_16 s x k]
    exact ends _ rfl h.sm.res rfl rfl
  · rw [chg_17 s x k]
    exact ends _ rfl h.sm.res rfl rfl
  · rw [chg_18 s x k]
    exact ends _ rfl h.sm.res rfl rfl
  · rw [chg_19 s x k]
    exact ends _ rfl h.sm.res rfl rfl
end Go.Proofs.Ytghclnpklindgaa
namespace Go.Proofs.Ytghclnpklindgaa
open Go.ChangeShapes Go.WideShapes Go.ChangeAt Go.RowKit
/-- Events one behind the other, in blocks below lo. -/
def IsL (lo : Nat) (w : World) (n : Nat) (a : Option Addr) (l : List Ev) : Prop :=
  ∃ rows : List (Array Value), rows.length = l.length ∧ RowS (fun b => b < lo) w a 13 rows ∧ ∀ (i : Nat) r e, rows[i]? = some r → l[i]? = some e → IsEv (IsP (fun b => b < lo) w n) r e
theorem IsL.below {lo : Nat} {w w' : World} {n : Nat} {a : Option Addr} {l : List Ev} (h : IsL lo w n a l) (hb : Below lo w w') : IsL lo w' n a l := by
  obtain ⟨rows, h1, h2, h3⟩ := h
  exact ⟨rows, h1, h2.keep (fun _ _ h => h) (fun b _ hl => hb.block b hl) (by decide), fun i r e hr he => (h3 i r e hr he).map fun v t hv => hv.keep (fun _ _ h => h) (fun b _ hl => hb.block b hl)⟩
/-- Events that are not too great. -/
def SmL (n : Nat) (l : List Ev) : Prop := ∀ (i : Nat) e, l[i]? = some e → SmallW n e.v ∧ e.c < 18446744073709551616
/-- What the closure does: the box B7 is cs, the box B8 is one more. -/
def TlP (B7 B8 : Nat) (cs : Array Value) (j : Int) (w : World) (e : Ending) (w' : World) : Prop :=
  e = .returned (.tuple #[]) ∧ w'.heap[B7]? = some (.cells cs 37 (0, 0)) ∧ w'.heap[B8]? = some (.cells #[.int .i64 (wrap64 (j + 1))] 3 (0, 0)) ∧ w.heap.size ≤ w'.heap.size ∧ w'.os = w.os ∧ w'.tape = w.tape ∧ w'.output = w.output ∧ ∀ b, b < w.heap.size → b ≠ B7 → b ≠ B8 → w'.heap[b]? = w.heap[b]?
set_option maxHeartbeats 2000000 in
set_option maxRecDepth 100000 in
theorem tell_calls (B7 B8 : Nat) (cs c7 : Array Value) (j : Int) (w : World) (hs : cs.size = 31) (h1 : ∀ (k : Nat) (v : Value), cs[k]? = some v → v.oneCell' = true) (h7 : w.heap[B7]? = some (.cells c7 37 (0, 0))) (hs7 : c7.size = 31) (h8 : w.heap[B8]? = some (.cells #[.int .i64 j] 3 (0, 0))) (hne : B7 ≠ B8) :
    Calls Try.prog 13 #[.agg cs, .pointer (some ⟨B7, 0, none⟩), .pointer (some ⟨B8, 0, none⟩)] w (TlP B7 B8 cs j w) := by
  have hl7 : B7 < w.heap.size := (Array.getElem?_eq_some_iff.1 h7).1
  have hl8 : B8 < w.heap.size := (Array.getElem?_eq_some_iff.1 h8).1
  have hi := info33s cs hs
  have hz : c7.size = cs.size := by rw [hs7, hs]
  have ha := all_one h1
  have r3 : (w.alloc (.cells cs 37)).heap[w.heap.size]? = some (.cells cs 37 (0, 0)) := heap_alloc_last w _
  have r7 : (w.alloc (.cells cs 37)).heap[B7]? = some (.cells c7 37 (0, 0)) := row_below (bel1 _ _) h7
  have r8 : (w.alloc (.cells cs 37)).heap[B8]? = some (.cells #[.int .i64 j] 3 (0, 0)) := row_below (bel1 _ _) h8
  have q7 := setRow_heap (w.alloc (.cells cs 37)) B7 c7 cs 37 (0, 0) r7
  have q8 : ((w.alloc (.cells cs 37)).setRow B7 cs).heap[B8]? = some (.cells #[.int .i64 j] 3 (0, 0)) := by rw [setRow_other _ _ _ _ (Ne.symm hne)]; exact r8
  have c8 : ((w.alloc (.cells cs 37)).setRow B7 cs).cell? ⟨B8, 0, none⟩ = some (.int .i64 j) := row_cell q8 rfl
  have f8 : ((w.alloc (.cells cs 37)).setRow B7 cs).frozen? ⟨B8, 0, none⟩ = false := frozen_of_row _ B8 0 _ 3 q8
  have HQ : Hid (TlP B7 B8 cs j w (.returned (.tuple #[])) (((w.alloc (.cells cs 37)).setRow B7 cs).setCell ⟨B8, 0, none⟩ (.int .i64 (wrap64 (j + 1))))) := by
    have k1 := KB.of_below (g := B7) (bel1 w (.cells cs 37))
    have k2 := setRow_kb (w.alloc (.cells cs 37)) B7 cs
    have k3 := KB.setCell B8 ((w.alloc (.cells cs 37)).setRow B7 cs) 0 (.int .i64 (wrap64 (j + 1)))
    have k12 := k1.trans k2
    have hsz := k12.2.2.2.1
    refine ⟨rfl, row_kb q7 k3 hne, heap_setCell_same _ B8 0 _ 3 _ q8, Nat.le_trans k12.2.2.2.1 k3.2.2.2.1, rfl, rfl, rfl, fun b hb h7 h8 => (ne_blk k3 (by omega) h8).trans (ne_blk k12 hb h7)⟩
  generalize TlP B7 B8 cs j w = Q at HQ ⊢
  clear h7 h8 hs hs7 h1 q7 q8 r8 hne hl7 hl8
  go_enter Try.func13, Try.ntmps13
  go_wp2_with (first | refine wpList_load_row rfl 37 _ rfl w.heap.size rfl 37 cs (0, 0) _ r3 Try.underlying37 rfl hi ?_ | refine wpList_store_row rfl 37 _ _ rfl B7 cs rfl rfl 37 c7 r7 hi hz ha ?_)
  go_end0
  exact HQ.out
/-- Where what a state holds may lie while events come. -/
def Okf (D : Nat → Prop) (B7 B8 : Nat) (b : Nat) : Prop := b ≠ B7 ∧ b ≠ B8 ∧ D b
/-- What follow answers. -/
def FwP (lo : Nat) (D : Nat → Prop) (B7 B8 n : Nat) (s : Sta) (l : List Ev) (w : World) (e : Ending) (w' : World) : Prop :=
  ∃ (code : Int) (s' : Sta) (k : Nat) (c7 : Array Value), e = .returned (.int .i64 code) ∧ FoE (n + 1) s l s' k code ∧ w'.heap[B7]? = some (.cells c7 37 (0, 0)) ∧ Ps (Okf D B7 B8) w' (n + 1) c7 s' ∧ Sml (n + 1) s' ∧ w'.heap[B8]? = some (.cells #[.int .i64 (k : Int)] 3 (0, 0)) ∧ Below lo w w'
/-- Behind j events. -/
structure FwI (lo : Nat) (D : Nat → Prop) (B7 B8 B3 n : Nat) (s : Sta) (l : List Ev) (w wr : World) (j : Nat) : Prop where
  bel : Below lo w wr
  st : ∃ (s' : Sta) (c3 c7 : Array Value), RunR (n + 1) (l.take j) s s' ∧ Sml (n + 1) s' ∧ wr.heap[B3]? = some (.cells c3 37 (0, 0)) ∧ wr.heap[B7]? = some (.cells c7 37 (0, 0)) ∧ Ps (fun b => Okf D B7 B8 b ∧ b ≠ B3) wr (n + 1) c3 s' ∧ Ps (fun b => Okf D B7 B8 b ∧ b ≠ B3) wr (n + 1) c7 s'
  cnt : wr.heap[B8]? = some (.cells #[.int .i64 (j : Int)] 3 (0, 0))
theorem Ps.okk {ok ok' : Nat → Prop} {w w' : World} {n : Nat} {cs : Array Value} {s : Sta} (h : Ps ok w n cs s) (hok : ∀ b, b < w.heap.size → ok b → ok' b) (hb : ∀ b, b < w.heap.size → ok b → w'.heap[b]? = w.heap[b]?) : Ps ok' w' n cs s := h.keep hok hb
set_option maxHeartbeats 4000000 in
set_option maxRecDepth 100000 in
theorem follow_calls (lo : Nat) (D : Nat → Prop) (B7 B8 n : Nat) (cs c7 : Array Value) (s : Sta) (a : Option Addr) (c : Nat) (l : List Ev) (w : World) (h : Ps (Okf D B7 B8) w (n + 1) cs s) (hm : Sml (n + 1) s) (h7 : w.heap[B7]? = some (.cells c7 37 (0, 0))) (hp7 : Ps (Okf D B7 B8) w (n + 1) c7 s) (h8 : w.heap[B8]? = some (.cells #[.int .i64 0] 3 (0, 0))) (hne : B7 ≠ B8) (hl7 : lo ≤ B7) (hl8 : lo ≤ B8) (hD : ∀ b, w.heap.size ≤ b → D b)
    (hL : IsL lo w (n + 1) a l) (hS : SmL (n + 1) l) (hll : l.length ≤ 1000) (hz : SmallW (n + 1) zE) :
    Calls Try.prog 12 #[.agg cs, .slice a l.length c, .func (.func 13) #[] #[.pointer (some ⟨B7, 0, none⟩), .pointer (some ⟨B8, 0, none⟩)]] w (FwP lo D B7 B8 n s l w) := by
  have HQ : Hid (∀ code s' k c7 w', FoE (n + 1) s l s' k code → w'.heap[B7]? = some (.cells c7 37 (0, 0)) → Ps (Okf D B7 B8) w' (n + 1) c7 s' → Sml (n + 1) s' → w'.heap[B8]? = some (.cells #[.int .i64 (k : Int)] 3 (0, 0)) → Below lo w w' → FwP lo D B7 B8 n s l w (.returned (.int .i64 code)) w') := fun code s' k c7 w' a1 a2 a3 a4 a5 a6 => ⟨code, s', k, c7, rfl, a1, a2, a3, a4, a5, a6⟩
  generalize FwP lo D B7 B8 n s l w = Q at HQ ⊢
  have hlw7 : B7 < w.heap.size := (Array.getElem?_eq_some_iff.1 h7).1
  have hlw8 : B8 < w.heap.size := (Array.getElem?_eq_some_iff.1 h8).1
  have HI0 : Hid (FwI lo D B7 B8 w.heap.size n s l w (w.alloc (.cells cs 37)) 0) := ⟨(Below.refl _ w).alloc (by omega) _, ⟨s, cs, c7, rfl, hm, heap_alloc_last w _, row_below (bel1 _ _) h7, h.okk (fun b hb ho => ⟨ho, by omega⟩) (fun b hb _ => (bel1 w (.cells cs 37)).block b hb), hp7.okk (fun b hb ho => ⟨ho, by omega⟩) (fun b hb _ => (bel1 w (.cells cs 37)).block b hb)⟩, row_below (bel1 _ _) h8⟩
  have HF : Hid (B7 ≠ B8 ∧ lo ≤ B7 ∧ lo ≤ B8 ∧ B7 < w.heap.size ∧ B8 < w.heap.size ∧ ∀ b, w.heap.size ≤ b → D b) := ⟨hne, hl7, hl8, hlw7, hlw8, hD⟩
  have HL : Hid (IsL lo w (n + 1) a l ∧ SmL (n + 1) l ∧ l.length ≤ 1000 ∧ SmallW (n + 1) zE) := ⟨hL, hS, hll, hz⟩
  clear h hm h7 hp7 h8 hne hl7 hl8 hL hS hll hz hlw7 hlw8 hD
  generalize hB3 : w.heap.size = B3 at HI0 HF
  have HB3 : Hid (w.heap.size = B3) := hB3
  clear hB3
  go_enter Try.func12, Try.ntmps12
  go_wp2_with fail
  rw [HB3.out]
  go_loopw [10, 13] (fun _ i wr => ∃ j : Nat, j ≤ l.length ∧ i = .int .i64 (j : Int) ∧ Hid (FwI lo D B7 B8 B3 n s l w wr j)) (fun _ i _ => l.length - (intOf i).toNat)
  case atStart => exact ⟨0, Nat.zero_le _, rfl, HI0⟩
  case round =>
    obtain ⟨j, hj, rfl, HI⟩ := hrel
    by_cases hlt : j < l.length
    · obtain ⟨s', c3, c7, hrun, hsm, hr3, hr7, hp3, hp7⟩ := HI.out.st
      obtain ⟨x, hx⟩ : ∃ x, l[j]? = some x := ⟨_, List.getElem?_eq_getElem hlt⟩
      obtain ⟨rows, q1, q2, q3⟩ := HL.out.1.below HI.out.bel
      obtain ⟨r, hr⟩ : ∃ r, rows[j]? = some r := ⟨_, List.getElem?_eq_getElem (by omega)⟩
      obtain ⟨hsz, h1r, B, o, rfl, hBlo, hlies⟩ := q2 j r hr
      have hIE := q3 j r x hr hx
      have hi45 : (Try.prog.info? 45).map (·.size) = some r.toList.length := by rw [Array.length_toList]; exact info46s r hsz
      have hi45' := info46s r hsz
      have hi3 := info33s c3 hp3.size
      have hrng := lies_range hlies
      have ho45 : zEv.size = r.size := hsz.symm
      have h145 := all_one h1r
      have hz45 : (wr.alloc (.cells zEv 45)).heap[wr.heap.size]? = some (.cells zEv 45 (0, 0)) := heap_alloc_new wr _
      have hjl : (j : Int) < (l.length : Int) := by omega
      have HW1 : Hid (wrap64 ((j : Int) + 1) = ((j + 1 : Nat) : Int)) := wr1 hlt (by have := HL.out.2.2.1; omega)
      have HR : Hid (RunR (n + 1) (l.take j) s s' ∧ Sml (n + 1) s') := ⟨hrun, hsm⟩
      have Hx : Hid (l[j]? = some x) := hx
      have HIE : Hid (IsEv (IsP (fun b => b < lo) wr (n + 1)) r x) := hIE
      have HP3 : Hid (Ps (fun b => Okf D B7 B8 b ∧ b ≠ B3) wr (n + 1) c3 s') := hp3
      have HP7 : Hid (Ps (fun b => Okf D B7 B8 b ∧ b ≠ B3) wr (n + 1) c7 s') := hp7
      have HR3 : Hid (wr.heap[B3]? = some (.cells c3 37 (0, 0))) := hr3
      have HR7 : Hid (wr.heap[B7]? = some (.cells c7 37 (0, 0))) := hr7
      clear hrun hsm hx q1 q2 q3 hr hIE hp3 hp7 hlies h1r hsz hBlo hr3 hr7
      go_upto_region 4 with (first
        | refine wpList_load_mid rfl 45 _ rfl B (o + j * 13) rfl r.toList _ hrng Try.underlying45 rfl hi45 ?_
        | refine wpList_store_row rfl 45 _ _ rfl wr.heap.size r rfl rfl 45 zEv hz45 hi45' ho45 h145 ?_)
      rw [World.setRow_alloc_new]
      have hba := bel1 wr (.cells r 45)
      have ra : (wr.alloc (.cells r 45)).heap[wr.heap.size]? = some (.cells r 45 (0, 0)) := heap_alloc_last wr _
      have r3 : (wr.alloc (.cells r 45)).heap[B3]? = some (.cells c3 37 (0, 0)) := row_below hba HR3.out
      have KS := step_calls n c3 r s' x (wr.alloc (.cells r 45)) (HP3.out.rs.below hba) (HIE.out.map fun v t h => h.is.below hba) (HL.out.2.1 j x Hx.out).2 HR.out.2.sm (HL.out.2.1 j x Hx.out).1 HR.out.2.lt HR.out.2.lu
      have HKS : Hid (Calls Try.prog 18 #[.agg c3, .agg r] (wr.alloc (.cells r 45)) (StG n s' x (wr.alloc (.cells r 45)))) := KS
      have HBa : Hid (Below wr.heap.size wr (wr.alloc (.cells r 45))) := hba
      have HZa : Hid (wr.heap.size < (wr.alloc (.cells r 45)).heap.size) := by show _ < _; simp
      clear KS hba hrng hz45 hi45
      generalize wr.alloc (.cells r 45) = Wa at ra r3 HKS HBa HZa ⊢
      go_wp2_with (first
        | refine wpList_load_row rfl 37 _ rfl B3 rfl 37 c3 (0, 0) _ r3 Try.underlying37 rfl hi3 ?_
        | refine wpList_load_row rfl 45 _ rfl wr.heap.size rfl 45 r (0, 0) _ ra Try.underlying45 rfl hi45' ?_)
      refine HKS.out.mono ?_
      rintro e' w1 ⟨⟨c2, code, s2, rfl, hst, hps⟩, hb1⟩
      have hi2 := info33s c2 hps.size
      have z2 : zS.size = c2.size := hps.size.symm
      have a2 := all_one hps.one
      have n1 : (w1.alloc (.cells zS 37)).heap[w1.heap.size]? = some (.cells zS 37 (0, 0)) := heap_alloc_new w1 _
      have HB1 : Hid (Below wr.heap.size wr w1) := bel2 HBa.out hb1
      have HST : Hid (StR (n + 1) s' x s2 code) := hst
      have HPS : Hid (Ps (Free Wa.heap.size w1) w1 (n + 1) c2 s2) := hps
      have HZ1 : Hid (Wa.heap.size ≤ w1.heap.size) := hb1.size
      clear hst hps hb1 ra r3 HKS hi3 hi45' ho45 h145
      go_upto_region 5 with (refine wpList_store_row rfl 37 _ _ rfl w1.heap.size c2 rfl rfl 37 zS n1 hi2 z2 a2 ?_)
      rw [World.setRow_alloc_new]
      have hb2 := bel1 w1 (.cells c2 37)
      have r9 : (w1.alloc (.cells c2 37)).heap[w1.heap.size]? = some (.cells c2 37 (0, 0)) := heap_alloc_last w1 _
      have HB2 : Hid (Below wr.heap.size wr (w1.alloc (.cells c2 37))) := bel2 HB1.out hb2
      have HB12 : Hid (Below w1.heap.size w1 (w1.alloc (.cells c2 37))) := hb2
      have HZ2 : Hid (w1.heap.size < (w1.alloc (.cells c2 37)).heap.size) := by show _ < _; simp
      clear hb2 n1
      generalize w1.alloc (.cells c2 37) = W2 at r9 HB2 HB12 HZ2 ⊢
      have hlr3 : B3 < wr.heap.size := (Array.getElem?_eq_some_iff.1 HR3.out).1
      have HLr : Hid (B3 < wr.heap.size) := hlr3
      have q3 := row_below HB2.out HR3.out
      have q7 := row_below HB2.out HR7.out
      have q8 := row_below HB2.out HI.out.cnt
      have HBl : Hid (Below lo w W2) := HI.out.bel.trans (HB2.out.mono (by have := HF.out; omega))
      have HQ3 : Hid (W2.heap[B3]? = some (.cells c3 37 (0, 0))) := q3
      have HQ7 : Hid (W2.heap[B7]? = some (.cells c7 37 (0, 0))) := q7
      have HQ8 : Hid (W2.heap[B8]? = some (.cells #[.int .i64 (j : Int)] 3 (0, 0))) := q8
      clear q3 q7 q8 hlr3
      by_cases hc : code = 0
      · subst hc
        have hm : MayE (n + 1) x := by
          by_cases hm : MayE (n + 1) x
          · exact hm
          · have := HST.out.2.1 hm
            omega
        have hs2 : s2 = chg s' x := by have := HST.out.2.2; rwa [if_pos rfl] at this
        have hrc := refC_fits (HST.out.1 hm).symm
        have HSm : Hid (Sml (n + 1) s2) := by
          show Sml (n + 1) s2
          rw [hs2]
          exact HR.out.2.chg (HL.out.2.1 j x Hx.out).1 HL.out.2.2.2 hrc.2.1 hm.kind
        have KT := tell_calls B7 B8 c2 c7 (j : Int) W2 HPS.out.size HPS.out.one HQ7.out HP7.out.size HQ8.out HF.out.1
        have HKT : Hid (Calls Try.prog 13 #[.agg c2, .pointer (some ⟨B7, 0, none⟩), .pointer (some ⟨B8, 0, none⟩)] W2 (TlP B7 B8 c2 (j : Int) W2)) := KT
        clear hm hs2 hrc KT
        go_wp2_with (refine wpList_load_row rfl 37 _ rfl w1.heap.size rfl 37 c2 (0, 0) _ r9 Try.underlying37 rfl hi2 ?_)
        refine HKT.out.mono ?_
        rintro e3 w3 ⟨rfl, t7, t8, tsz, tos, ttp, tout, tk⟩
        have f1 := HF.out
        have f2 := HLr.out
        have f3 := HZa.out
        have f4 := HZ1.out
        have f5 := HZ2.out
        have f6 := HB3.out
        have f7 := HB2.out.size
        have t9 : w3.heap[w1.heap.size]? = some (.cells c2 37 (0, 0)) := (tk _ f5 (by omega) (by omega)).trans r9
        have t3 : w3.heap[B3]? = some (.cells c3 37 (0, 0)) := (tk _ (by omega) (by omega) (by omega)).trans HQ3.out
        have hz3 : c3.size = c2.size := by rw [HP3.out.size, HPS.out.size]
        have hbl : Below lo W2 w3 := ⟨tos, ttp, tout, tsz, fun b hb => tk b (by omega) (by omega) (by omega)⟩
        have HFw : Hid (FwI lo D B7 B8 B3 n s l w (w3.setRow B3 c2) (j + 1)) := by
          have hk := setRow_kb w3 B3 c2
          have keep : ∀ b, b < w1.heap.size → Free Wa.heap.size w1 b → (w3.setRow B3 c2).heap[b]? = w1.heap[b]? := fun b hb hf => by
            have := hf.1
            rw [ne_blk hk (by omega) (by omega), tk b (by omega) (by omega) (by omega), HB12.out.block b hb]
          have hps : Ps (fun b => Okf D B7 B8 b ∧ b ≠ B3) (w3.setRow B3 c2) (n + 1) c2 s2 := HPS.out.okk (fun b hb hf => by have := hf.1; exact ⟨⟨by omega, by omega, HF.out.2.2.2.2.2 b (by omega)⟩, by omega⟩) keep
          refine ⟨(HBl.out.trans hbl).trans (hk.below (by omega) (by omega)), ⟨s2, c2, c2, ?_, HSm.out, setRow_heap w3 B3 c3 c2 37 (0, 0) t3, (setRow_other _ _ _ _ (by omega)).trans t7, hps, hps⟩, ?_⟩
          · rw [take_succ_some Hx.out]
            exact HR.out.1.append ⟨s2, HST.out, rfl⟩
          · rw [setRow_other _ _ _ _ (by omega), t8, HW1.out]
        clear t7 t8 tsz tos ttp tout tk f1 f2 f3 f4 f5 f6 f7 hbl
        go_wp2_with (first
          | refine wpList_load_row rfl 37 _ rfl w1.heap.size rfl 37 c2 (0, 0) _ t9 Try.underlying37 rfl hi2 ?_
          | refine wpList_store_row rfl 37 _ _ rfl B3 c2 rfl rfl 37 c3 t3 hi2 hz3 a2 ?_)
        exact ⟨⟨j + 1, hlt, by rw [HW1.out], HFw⟩, meas hlt HW1.out⟩
      · have HC : Hid (code ≠ 0) := hc
        have hce : (code == 0) = false := by simpa using hc
        have hcn : (code != 0) = true := by simpa using hc
        go_wp2_with fail
        exact HQ.out code s' j c7 _ ⟨hj, HR.out.1, .inr ⟨x, s2, Hx.out, HST.out, HC.out⟩⟩ HQ7.out (HP7.out.okk (fun b _ h => h.1) (fun b hb _ => HB2.out.block b hb)) HR.out.2 HQ8.out HBl.out
    · obtain rfl : j = l.length := by omega
      obtain ⟨s', c3, c7, hrun, hsm, hr3, hr7, hp3, hp7⟩ := HI.out.st
      have HX : Hid (Q (.returned (.int .i64 0)) wr) := HQ.out 0 s' l.length c7 wr ⟨Nat.le_refl _, hrun, .inl ⟨rfl, rfl⟩⟩ hr7 (hp7.okk (fun b _ h => h.1) (fun _ _ _ => rfl)) hsm HI.out.cnt HI.out.bel
      clear hrun hsm hr3 hr7 hp3 hp7
      go_wp2_with fail
      exact HX.out
end Go.Proofs.Ytghclnpklindgaa
namespace Go.Proofs.Ytghclnpklindgaa
open Go.ChangeShapes Go.WideShapes Go.ChangeAt Go.RowKit
theorem Is.lt {w : World} : ∀ {n : Nat} {v : Value} {t : Tv}, Is w n v t → IsP (fun b => b < w.heap.size) w n v t
  | 0, _, _, h => h
  | n + 1, v, .mk k x b s l, ⟨a, c, hv, hf, hr⟩ => ⟨a, c, hv, hf, fun i t ht => by
      obtain ⟨B, o, c0, c1, c2, c3, c4, ha, h5, hi⟩ := hr i t ht
      exact ⟨B, o, c0, c1, c2, c3, c4, ha, World.block_lt_of_cell? w _ h5.1, h5, hi.lt⟩⟩
theorem Rs.lt {w : World} {n : Nat} {cs : Array Value} {s : Sta} (h : Rs w n cs s) : Ps (fun b => b < w.heap.size) w n cs s := IsS.map (fun _ hB _ => hB) (fun _ _ _ hv => hv) (fun _ _ h => h.lt) h
theorem IsL.mono {lo lo' : Nat} {w : World} {n : Nat} {a : Option Addr} {l : List Ev} (h : IsL lo w n a l) (hl : lo ≤ lo') : IsL lo' w n a l := by
  obtain ⟨rows, h1, h2, h3⟩ := h
  exact ⟨rows, h1, h2.keep (fun _ _ h => Nat.lt_of_lt_of_le h hl) (fun _ _ _ => rfl) (by decide), fun i r e hr he => (h3 i r e hr he).map fun v t hv => hv.keep (fun _ _ h => Nat.lt_of_lt_of_le h hl) (fun _ _ _ => rfl)⟩
theorem ret_cell_tmp2 {fn : Func} {p q r : Tmp} {ty : TypeId} (h : fn.results = #[.cell p ty, .tmp q, .tmp r]) (tmps : Array Value) {w : World} {v u x : Value} {a : Addr} (hp : tmps.getD p undef = .pointer (some a)) (hq : tmps.getD q undef = u) (hr : tmps.getD r undef = x) (hl : (loadVar ty a).run Try.prog w = .ok v w) : (results fn tmps).run Try.prog w = .ok (.tuple #[v, u, x]) w := by
  have hp' : tmps[p]?.getD undef = .pointer (some a) := by simpa using hp
  have hq' : tmps[q]?.getD undef = u := by simpa using hq
  have hr' : tmps[r]?.getD undef = x := by simpa using hr
  simp [results, h, hp', hq', hr', asAddr, hl]
/-- What Extend answers. -/
def ExP (D : Nat → Prop) (n : Nat) (s : Sta) (l : List Ev) (w : World) (e : Ending) (w' : World) : Prop :=
  (∃ (cs' : Array Value) (s' : Sta) (k : Nat) (code : Int), e = .returned (.tuple #[.agg cs', .int .i64 (k : Int), .int .i64 code]) ∧ FoE (n + 1) s l s' k code ∧ Ps D w' (n + 1) cs' s' ∧ Sml (n + 1) s') ∧ Below w.heap.size w w'
set_option maxHeartbeats 4000000 in
set_option maxRecDepth 100000 in
theorem extend_calls (D : Nat → Prop) (n : Nat) (cs : Array Value) (s : Sta) (a : Option Addr) (c : Nat) (l : List Ev) (w : World) (h : Ps D w (n + 1) cs s) (hD : ∀ b, w.heap.size ≤ b → D b) (hm : Sml (n + 1) s) (hL : IsL w.heap.size w (n + 1) a l) (hS : SmL (n + 1) l) (hll : l.length ≤ 1000) (hz : SmallW (n + 1) zE) :
    Calls Try.prog 8 #[.agg cs, .slice a l.length c] w (ExP D n s l w) := by
  have KC : Hid (∀ W, Below w.heap.size w W → Calls Try.prog 11 #[.agg cs] W (ClS (n + 1) W s)) := fun W hB => sclone_calls (n + 1) cs s W (h.rs.below hB) hm.sm (by have := hm.lt; omega) (by have := hm.lu; omega)
  have hi := info33s cs h.size
  have HQ : Hid (∀ cs' s' (k : Nat) code w', FoE (n + 1) s l s' k code → Ps D w' (n + 1) cs' s' → Sml (n + 1) s' → Below w.heap.size w w' → ExP D n s l w (.returned (.tuple #[.agg cs', .int .i64 (k : Int), .int .i64 code])) w') := fun cs' s' k code w' a1 a2 a3 a4 => ⟨⟨cs', s', k, code, rfl, a1, a2, a3⟩, a4⟩
  generalize ExP D n s l w = Q at HQ ⊢
  have HD : Hid (∀ b, w.heap.size ≤ b → D b) := hD
  have HA : Hid (Ps D w (n + 1) cs s ∧ Sml (n + 1) s ∧ IsL w.heap.size w (n + 1) a l ∧ SmL (n + 1) l ∧ l.length ≤ 1000 ∧ SmallW (n + 1) zE) := ⟨h, hm, hL, hS, hll, hz⟩
  clear h hm hL hS hll hz hD
  go_enter Try.func8, Try.ntmps8
  have b0 : Hid (Below w.heap.size w ((w.alloc (.cells cs 37)).alloc (.cells zS 37))) := bel2 (bel1 _ _) (bel1 _ _)
  have r0 : ((w.alloc (.cells cs 37)).alloc (.cells zS 37)).heap[w.heap.size]? = some (.cells cs 37 (0, 0)) := heap_alloc2_old _ _ _
  have r1 : ((w.alloc (.cells cs 37)).alloc (.cells zS 37)).heap[w.heap.size + 1]? = some (.cells zS 37 (0, 0)) := heap_alloc2_new _ _ _
  go_upto_region 1 with fail
  change Code.wp _ _ _ _ ((w.alloc (.cells cs 37)).alloc (.cells zS 37))
  generalize (w.alloc (.cells cs 37)).alloc (.cells zS 37) = W0 at b0 r0 r1 ⊢
  go_wp2_with (refine wpList_load_row rfl 37 _ rfl w.heap.size rfl 37 cs (0, 0) _ r0 Try.underlying37 rfl hi ?_)
  refine (KC.out _ b0.out).mono ?_
  rintro e w1 ⟨⟨c1, rfl, h1⟩, hb⟩
  have hi1 := info33s c1 h1.ig.size
  have z1 : zS.size = c1.size := h1.ig.size.symm
  have a1 := all_one h1.ps.one
  have s0 := row_below hb r0
  have s1 := row_below hb r1
  have HS1 : Hid (w.heap.size + 1 < W0.heap.size) := (Array.getElem?_eq_some_iff.1 r1).1
  have HL1 : Hid (W0.heap.size ≤ w1.heap.size) := hb.size
  have b1 : Hid (Below w.heap.size w w1) := bel2 b0.out hb
  have H1 : Hid (Ps (Free W0.heap.size w1) w1 (n + 1) c1 s) := h1.ps
  have n1 : ((w1.alloc (.cells zS 37)).alloc (.cells #[.int .i64 0] 3)).heap[w1.heap.size]? = some (.cells zS 37 (0, 0)) := heap_alloc2_old _ _ _
  have n2 : ((w1.alloc (.cells zS 37)).alloc (.cells #[.int .i64 0] 3)).heap[w1.heap.size + 1]? = some (.cells #[.int .i64 0] 3 (0, 0)) := heap_alloc2_new _ _ _
  have m1 := setRow_heap _ w1.heap.size zS c1 37 (0, 0) n1
  have m2 : (((w1.alloc (.cells zS 37)).alloc (.cells #[.int .i64 0] 3)).setRow w1.heap.size c1).heap[w1.heap.size + 1]? = some (.cells #[.int .i64 0] 3 (0, 0)) := (setRow_other _ _ _ _ (by omega)).trans n2
  have x2 : (((w1.alloc (.cells zS 37)).alloc (.cells #[.int .i64 0] 3)).setRow w1.heap.size c1).cell? ⟨w1.heap.size + 1, 0, none⟩ = some (.int .i64 0) := row_cell m2 rfl
  have xf : (((w1.alloc (.cells zS 37)).alloc (.cells #[.int .i64 0] 3)).setRow w1.heap.size c1).frozen? ⟨w1.heap.size + 1, 0, none⟩ = false := frozen_of_row _ _ 0 _ 3 m2
  have p7 : ((((w1.alloc (.cells zS 37)).alloc (.cells #[.int .i64 0] 3)).setRow w1.heap.size c1).setCell ⟨w1.heap.size + 1, 0, none⟩ (.int .i64 0)).heap[w1.heap.size]? = some (.cells c1 37 (0, 0)) := row_kb m1 (KB.setCell (w1.heap.size + 1) _ 0 _) (by omega)
  have p8 : ((((w1.alloc (.cells zS 37)).alloc (.cells #[.int .i64 0] 3)).setRow w1.heap.size c1).setCell ⟨w1.heap.size + 1, 0, none⟩ (.int .i64 0)).heap[w1.heap.size + 1]? = some (.cells #[.int .i64 0] 3 (0, 0)) := heap_setCell_same _ _ 0 _ 3 _ m2
  have pb : Below w1.heap.size w1 ((((w1.alloc (.cells zS 37)).alloc (.cells #[.int .i64 0] 3)).setRow w1.heap.size c1).setCell ⟨w1.heap.size + 1, 0, none⟩ (.int .i64 0)) := (below_setRow (bel2 (bel1 _ _) (bel1 _ _)) (Nat.le_refl _) c1).trans ((KB.setCell (w1.heap.size + 1) _ 0 _).below (by omega) (by simp [setRow_size]; omega))
  simp only [zS] at x2 xf
  clear hb r0 r1 h1 KC m1 m2 n2
  go_upto_region 2 with (refine wpList_store_row rfl 37 _ _ rfl w1.heap.size c1 rfl rfl 37 zS n1 hi1 z1 a1 ?_)
  change Code.wp _ _ _ _ ((((w1.alloc (.cells zS 37)).alloc (.cells #[.int .i64 0] 3)).setRow w1.heap.size c1).setCell ⟨w1.heap.size + 1, 0, none⟩ (.int .i64 0))
  clear x2 xf n1
  generalize (((w1.alloc (.cells zS 37)).alloc (.cells #[.int .i64 0] 3)).setRow w1.heap.size c1).setCell ⟨w1.heap.size + 1, 0, none⟩ (.int .i64 0) = W3 at p7 p8 pb ⊢
  have t0 := row_below pb s0
  have t1 := row_below pb s1
  have B3 : Hid (Below w.heap.size w W3) := bel2 b1.out pb
  have HG : Hid (w.heap.size + 1 < w1.heap.size) := Nat.lt_of_lt_of_le HS1.out HL1.out
  have hA := HA.out
  have hsz3 := pb.size
  have KF := follow_calls W0.heap.size (fun b => D b ∧ b ≠ w.heap.size + 1) w1.heap.size (w1.heap.size + 1) n cs c1 s a c l W3 (hA.1.okk (fun b hb hd => ⟨by have := HG.out; omega, by have := HG.out; omega, hd, by omega⟩) (fun b hb _ => B3.out.block b hb)) hA.2.1 p7 (H1.out.okk (fun b hb hf => ⟨by omega, by omega, HD.out b (by have := hf.1; have := HS1.out; omega), by have := hf.1; have := HS1.out; omega⟩) (fun b hb _ => pb.block b hb)) p8 (by omega) HL1.out (by have := HL1.out; omega) (fun b hb => ⟨HD.out b (by have := HG.out; omega), by have := HG.out; omega⟩) ((hA.2.2.1.below B3.out).mono (by have := HS1.out; omega)) hA.2.2.2.1 hA.2.2.2.2.1 hA.2.2.2.2.2
  have HKF : Hid (Calls Try.prog 12 #[.agg cs, .slice a l.length c, .func (.func 13) #[] #[.pointer (some ⟨w1.heap.size, 0, none⟩), .pointer (some ⟨w1.heap.size + 1, 0, none⟩)]] W3 (FwP W0.heap.size (fun b => D b ∧ b ≠ w.heap.size + 1) w1.heap.size (w1.heap.size + 1) n s l W3)) := KF
  have HT1 : Hid (W3.heap[w.heap.size + 1]? = some (.cells zS 37 (0, 0))) := t1
  have HW0 : Hid (w.heap.size ≤ W0.heap.size) := b0.out.size
  clear KF hA p7 p8 pb s0 s1 t1 hsz3
  go_wp2_with (refine wpList_load_row rfl 37 _ rfl w.heap.size rfl 37 cs (0, 0) _ t0 Try.underlying37 rfl hi ?_)
  refine HKF.out.mono ?_
  rintro e w4 ⟨code, s', k, c7, rfl, hfo, h70, hp, hsm, h80, hb4⟩
  have hi7 := info33s c7 hp.size
  have hi7l := info33l c7 hp.size
  have z7 : zS.size = c7.size := hp.size.symm
  have a7 := all_one hp.one
  have h7 : Hid (w4.heap[w1.heap.size]? = some (.cells c7 37 (0, 0))) := h70
  have h8 : Hid (w4.heap[w1.heap.size + 1]? = some (.cells #[.int .i64 (k : Int)] 3 (0, 0))) := h80
  have hz4 : Hid (w4.heap[w.heap.size + 1]? = some (.cells zS 37 (0, 0))) := by
    show w4.heap[w.heap.size + 1]? = _
    rw [hb4.block _ HS1.out]
    exact HT1.out
  have HR4 : Hid (FoE (n + 1) s l s' k code ∧ Sml (n + 1) s' ∧ Below w.heap.size w w4) := ⟨hfo, hsm, B3.out.trans (hb4.mono HW0.out)⟩
  have HP4 : Hid (Ps (Okf (fun b => D b ∧ b ≠ w.heap.size + 1) w1.heap.size (w1.heap.size + 1)) w4 (n + 1) c7 s') := hp
  clear hfo h70 hp hsm h80 hb4 t0 HKF
  go_wp2_with fail
  refine wp_region_held_drew (S := (fun w' => w'.rangeAt w1.heap.size 0 c7.toList ∧ w'.cell? ⟨w1.heap.size + 1, 0, none⟩ = some (.int .i64 (k : Int)))) (by kernel_rfl) ⟨row_range h7.out, row_cell h8.out rfl⟩ (fun hHeld => ?_)
  change wpAnyH _ _ _ _ _ _ _ _ (World.drew _)
  refine wpAnyH_take (i := 0) (oi := { dst := some 16, op := Go.Op.load 37 (Go.Operand.tmp 7), type := 37, pos := "fold.go:46", after := #[], guard := none }) (v := _) rfl (by kernel_rfl) (by kernel_rfl) (by kernel_rfl) (fun _ _ _ h => h) (yieldsIf_load_mid rfl 37 _ rfl w1.heap.size 0 rfl c7.toList _ (fun w h => h.1) Try.underlying37 rfl hi7l) hHeld ?_
  simp only [Act.put, List.setIfInBounds_toArray, List.set_cons_zero, List.set_cons_succ]
  refine wpAnyH_take (i := 1) (oi := { dst := some 17, op := Go.Op.load 3 (Go.Operand.tmp 8), type := 3, pos := "fold.go:46", after := #[{ on := 3, ground := Go.Ground.gcOnly Go.Departure.lateStores }], guard := none }) (v := ?_) rfl (by kernel_rfl) (by kernel_rfl) (by kernel_rfl) (fun _ _ _ h => h) (Or.inl ⟨by rfl, ?_⟩) hHeld ?_
  rotate_left 1
  · (intro w hSw; (try dsimp only at hSw); go_simp <;> with_reducible rfl)
  simp only [Act.put, List.setIfInBounds_toArray, List.set_cons_zero, List.set_cons_succ]
  refine wpAnyH_take (i := 2) (oi := { dst := some 18, op := Go.Op.move (Go.Operand.tmp 9), type := 38, pos := "fold.go:46", after := #[{ on := 4, ground := Go.Ground.gcOnly Go.Departure.lateStores }], guard := none }) (v := ?_) rfl (by kernel_rfl) (by kernel_rfl) (by kernel_rfl) (fun _ _ _ h => h) (Or.inl ⟨by rfl, ?_⟩) hHeld ?_
  rotate_left 1
  · (intro w hSw; (try dsimp only at hSw); go_simp <;> with_reducible rfl)
  simp only [Act.put, List.setIfInBounds_toArray, List.set_cons_zero, List.set_cons_succ]
  refine wpAnyH_ready (rs := [3]) (by kernel_rfl) (by simp) ?_
  refine AllReadyH.cons (o := { dst := none, op := Go.Op.store 37 (Go.Operand.tmp 4) (Go.Operand.tmp 16), type := 0, pos := "fold.go:46", after := #[{ on := 0, ground := Go.Ground.data }, { on := 0, ground := Go.Ground.phase }, { on := 1, ground := Go.Ground.textOnly Go.Departure.lateStores }, { on := 2, ground := Go.Ground.textOnly Go.Departure.lateStores }], guard := none }) rfl (fun K hK => ?_) AllReadyH.nil
  rw [if_pos (by rfl)]
  refine wp_store_row 37 _ _ rfl (w.heap.size + 1) c7 rfl rfl 37 zS hz4.out hi7 z7 a7 ?_
  refine hK.out _ _ ⟨row_range (show (World.setRow _ _ _).heap[w1.heap.size]? = _ from (setRow_other _ _ _ _ (by have := HG.out; omega)).trans h7.out), row_cell (show (World.setRow _ _ _).heap[w1.heap.size + 1]? = _ from (setRow_other _ _ _ _ (by have := HG.out; omega)).trans h8.out) rfl⟩ (fun hHeld => ?_)
  clear hK K
  simp only [Act.put]
  refine wpAnyH_take (i := 4) (oi := { dst := some 5, op := Go.Op.assign (Go.Operand.tmp 17), type := 3, pos := "fold.go:46", after := #[{ on := 1, ground := Go.Ground.data }, { on := 3, ground := Go.Ground.chain }, { on := 0, ground := Go.Ground.phase }, { on := 1, ground := Go.Ground.phase }, { on := 2, ground := Go.Ground.textOnly Go.Departure.lateStores }, { on := 3, ground := Go.Ground.phase }], guard := none }) (v := ?_) rfl (by kernel_rfl) (by kernel_rfl) (by kernel_rfl) (fun _ _ _ h => h) (Or.inl ⟨by rfl, ?_⟩) hHeld ?_
  rotate_left 1
  · (intro w hSw; (try dsimp only at hSw); go_simp <;> with_reducible rfl)
  simp only [Act.put, List.setIfInBounds_toArray, List.set_cons_zero, List.set_cons_succ]
  refine wpAnyH_take (i := 5) (oi := { dst := some 6, op := Go.Op.assign (Go.Operand.tmp 18), type := 38, pos := "fold.go:46", after := #[{ on := 2, ground := Go.Ground.data }, { on := 4, ground := Go.Ground.chain }, { on := 0, ground := Go.Ground.phase }, { on := 1, ground := Go.Ground.phase }, { on := 2, ground := Go.Ground.phase }, { on := 3, ground := Go.Ground.phase }, { on := 4, ground := Go.Ground.phase }], guard := none }) (v := ?_) rfl (by kernel_rfl) (by kernel_rfl) (by kernel_rfl) (fun _ _ _ h => h) (Or.inl ⟨by rfl, ?_⟩) hHeld ?_
  rotate_left 1
  · (intro w hSw; (try dsimp only at hSw); go_simp <;> with_reducible rfl)
  simp only [Act.put, List.setIfInBounds_toArray, List.set_cons_zero, List.set_cons_succ]
  refine wpAnyH_done (by kernel_rfl) ?_ _
  go_wp2_with fail
  have k9 := setRow_heap w4.drew (w.heap.size + 1) zS c7 37 (0, 0) hz4.out
  have hl : (loadVar 37 ⟨w.heap.size + 1, 0, none⟩).run Try.prog (w4.drew.setRow (w.heap.size + 1) c7) = .ok (.agg c7) (w4.drew.setRow (w.heap.size + 1) c7) := run_loadVar_row _ (w.heap.size + 1) 37 37 c7 (0, 0) _ k9 Try.underlying37 rfl hi7
  refine bodyPost_ret (v := .tuple #[.agg c7, .int .i64 (k : Int), .int .i64 code]) (ret_cell_tmp2 Try.results8 _ rfl rfl rfl hl) rfl (HQ.out c7 s' k code _ HR4.out.1 (HP4.out.okk (ok' := D) (fun _ _ h => h.2.2.1) (fun b hb hf => ?_)) HR4.out.2.1 (below_setRow HR4.out.2.2.drew (by omega) _))
  exact setRow_other w4.drew _ _ _ hf.2.2.2
end Go.Proofs.Ytghclnpklindgaa
namespace Go.Proofs.Ytghclnpklindgaa
open Go.ChangeAt Go.ChangeShapes Go.Deep Go.RowKit Go.WideShapes
theorem list2 {α : Type} : ∀ {l : List α}, l.length = 2 → ∃ a b, l = [a, b]
  | [a, b], _ => ⟨a, b, rfl⟩
theorem list3 {α : Type} : ∀ {l : List α}, l.length = 3 → ∃ a b c, l = [a, b, c]
  | [a, b, c], _ => ⟨a, b, c, rfl⟩
theorem list4 {α : Type} : ∀ {l : List α}, l.length = 4 → ∃ a b c d, l = [a, b, c, d]
  | [a, b, c, d], _ => ⟨a, b, c, d, rfl⟩
theorem list12 {α : Type} : ∀ {l : List α}, l.length = 12 → ∃ a0 a1 a2 a3 a4 a5 a6 a7 a8 a9 a10 a11, l = [a0, a1, a2, a3, a4, a5, a6, a7, a8, a9, a10, a11]
  | [a0, a1, a2, a3, a4, a5, a6, a7, a8, a9, a10, a11], _ => ⟨a0, a1, a2, a3, a4, a5, a6, a7, a8, a9, a10, a11, rfl⟩
theorem list17 {α : Type} : ∀ {l : List α}, l.length = 17 → ∃ a0 a1 a2 a3 a4 a5 a6 a7 a8 a9 a10 a11 a12 a13 a14 a15 a16, l = [a0, a1, a2, a3, a4, a5, a6, a7, a8, a9, a10, a11, a12, a13, a14, a15, a16]
  | [a0, a1, a2, a3, a4, a5, a6, a7, a8, a9, a10, a11, a12, a13, a14, a15, a16], _ => ⟨a0, a1, a2, a3, a4, a5, a6, a7, a8, a9, a10, a11, a12, a13, a14, a15, a16, rfl⟩
theorem list31 {α : Type} : ∀ {l : List α}, l.length = 31 → ∃ a0 a1 a2 a3 a4 a5 a6 a7 a8 a9 a10 a11 a12 a13 a14 a15 a16 a17 a18 a19 a20 a21 a22 a23 a24 a25 a26 a27 a28 a29 a30, l = [a0, a1, a2, a3, a4, a5, a6, a7, a8, a9, a10, a11, a12, a13, a14, a15, a16, a17, a18, a19, a20, a21, a22, a23, a24, a25, a26, a27, a28, a29, a30]
  | [a0, a1, a2, a3, a4, a5, a6, a7, a8, a9, a10, a11, a12, a13, a14, a15, a16, a17, a18, a19, a20, a21, a22, a23, a24, a25, a26, a27, a28, a29, a30], _ => ⟨a0, a1, a2, a3, a4, a5, a6, a7, a8, a9, a10, a11, a12, a13, a14, a15, a16, a17, a18, a19, a20, a21, a22, a23, a24, a25, a26, a27, a28, a29, a30, rfl⟩
theorem cells38 : Try.prog.cellsOf 50 = 2 := by kernel_rfl
theorem cells40 : Try.prog.cellsOf 52 = 12 := by kernel_rfl
theorem cells27 : Try.prog.cellsOf 31 = 3 := by kernel_rfl
theorem cells29 : Try.prog.cellsOf 33 = 5 := by kernel_rfl
theorem cells33 : Try.prog.cellsOf 37 = 31 := by kernel_rfl
/-- A slice of structs that came in: rows of cells, each read by itself. -/
theorem open_rows {H : Type} {enc : TypeId × Value → H} {W : World} {base : Nat} {spare : Nat → Bool} {held : Bool} {sl el : TypeId} {k : Nat} (hs : Try.prog.underlying sl = some (.slice el)) (hc : Try.prog.cellsOf el = k) (hk : 0 < k) (fuel : Nat) (cs : List Value) (x : DataW H × List MemPlace)
    (h : DataW.trod enc Try.prog W base spare held fuel sl cs = some x) (hwt : ∀ y ∈ x.1.weights Try.prog sl, y ≤ reachBytes) :
    ∃ (a : Option Addr) (cap q : Nat) (rows : List (List Value)), cs = [.slice a rows.length cap] ∧ rows.length ≤ 9223372036854775807 ∧ ∀ (i : Nat) r, rows[i]? = some r → r.length = k ∧ (∃ B o, a = some ⟨B, o, none⟩ ∧ ∀ (j : Nat) v, r[j]? = some v → W.cell? ⟨B, o + i * k + j, none⟩ = some v) ∧
      ∃ y, DataW.trod enc Try.prog W base spare held q el r = some y ∧ ∀ z ∈ y.1.weights Try.prog el, z ≤ reachBytes := by
  rcases DataW.trod_slice hs h with ⟨h4, _⟩ | ⟨a, len, cap, elems, rest, q, hq, h4, h4x, _, hl, hm, he, hx, _, _⟩
  · exact ⟨none, 0, 0, [], by rw [h4]; rfl, by simp, fun i r hr => by simp at hr⟩
  · unfold maxLen at hm
    have helem : ∀ i (hi : i < elems.length), ∀ y ∈ (elems[i]).1.weights Try.prog el, y ≤ reachBytes := fun i hi y hy => by
      apply hwt
      rw [h4x]
      simp only [DataW.weights, hs, List.mem_cons, List.mem_append]
      exact .inr (.inl (mem_all (List.mem_map.2 ⟨_, List.getElem_mem hi, rfl⟩) y hy))
    have each : ∀ i, i < len → ∃ r : List Value, r.length = k ∧ (∃ B o, a = ⟨B, o, none⟩ ∧ ∀ (j : Nat) v, r[j]? = some v → W.cell? ⟨B, o + i * k + j, none⟩ = some v) ∧ ∃ y, DataW.trod enc Try.prog W base spare held q el r = some y ∧ ∀ z ∈ y.1.weights Try.prog el, z ≤ reachBytes := by
      intro i hi
      have key := hx i hi
      rw [List.getElem?_eq_getElem (by omega)] at key
      obtain ⟨cs', k1, k2⟩ := Option.bind_eq_some_iff.1 key
      rw [hc] at k1
      obtain ⟨hl1, hl2, hcell⟩ := World.cells?_some k1
      have hlen : cs'.length = k := by first | exact hl1 | exact hl2
      have hsp : a.spot = none := by
        have key0 := hx 0 (by omega)
        rw [List.getElem?_eq_getElem (by omega)] at key0
        obtain ⟨cs0, k10, _⟩ := Option.bind_eq_some_iff.1 key0
        rw [hc] at k10
        obtain ⟨g1, g2, hcell0⟩ := World.cells?_some k10
        have hl0 : cs0.length = k := by first | exact g1 | exact g2
        have q0 := hcell0 0 (by omega)
        rw [List.getElem?_eq_getElem (by omega)] at q0
        have := plain_addr q0
        simpa [Addr.add] using this
      obtain ⟨B, o, sp⟩ := a
      cases hsp
      refine ⟨cs', hlen, ⟨B, o, rfl, fun j v hj => ?_⟩, _, k2, helem i (by omega)⟩
      have hjl := (List.getElem?_eq_some_iff.1 hj).1
      have := hcell j (by omega)
      rw [addp, addp] at this
      rw [this]
      simpa using hj
    have inh : Inhabited (List Value) := ⟨[]⟩
    obtain ⟨F, hF⟩ := choose_lt each
    refine ⟨some a, cap, q, (List.range len).map F, by rw [h4]; simp, by simp; omega, fun i r hr => ?_⟩
    have hi : i < len := by have := (List.getElem?_eq_some_iff.1 hr).1; simpa using this
    rw [List.getElem?_map, List.getElem?_range hi] at hr
    cases hr
    obtain ⟨h1, ⟨B, o, h2, h3⟩, h5⟩ := hF i hi
    exact ⟨h1, ⟨B, o, by rw [h2], h3⟩, h5⟩
set_option maxRecDepth 100000 in
theorem open_tm {H : Type} {enc : TypeId × Value → H} {W : World} {base : Nat} {spare : Nat → Bool} {held : Bool} (fuel : Nat) (cs : List Value) (x : DataW H × List MemPlace) (h : DataW.trod enc Try.prog W base spare held fuel 50 cs = some x) :
    ∃ t : Tm, cs = [.string t.s, .int .i64 t.d] ∧ -9223372036854775808 ≤ t.d ∧ t.d ≤ 9223372036854775807 := by
  obtain ⟨xs, k, hk, hxy, hlen, hxl, hf⟩ := DataW.trod_struct Try.underlying50 h
  rw [cells38] at hlen
  obtain ⟨c0, c1, rfl⟩ := list2 hlen
  obtain ⟨y0, y1, rfl⟩ := list2 (l := xs) hxl
  have g0 := hf 0 _ rfl
  have g1 := hf 1 _ rfl
  clear hf hxl hlen hxy h
  simp only [List.getElem?_cons_zero, List.getElem?_cons_succ] at g0 g1
  obtain ⟨n0, e0, _, w0⟩ := DataW.trod_string Try.underlying9 g0
  obtain ⟨n1, e1, _, w1⟩ := DataW.trod_int Try.underlying3 g1
  cases e0; cases e1
  exact ⟨⟨n0, n1⟩, rfl, lo64 w1⟩
set_option maxRecDepth 100000 in
theorem open_po {H : Type} {enc : TypeId × Value → H} {W : World} {base : Nat} {spare : Nat → Bool} {held : Bool} (fuel : Nat) (cs : List Value) (x : DataW H × List MemPlace) (h : DataW.trod enc Try.prog W base spare held fuel 31 cs = some x) :
    ∃ (f : Int) (c : Nat) (m : Int), cs = [.int .i64 f, .int .u64 (c : Int), .int .i64 m] ∧ c < 18446744073709551616 := by
  obtain ⟨xs, k, hk, hxy, hlen, hxl, hf⟩ := DataW.trod_struct Try.underlying31 h
  rw [cells27] at hlen
  obtain ⟨c0, c1, c2, rfl⟩ := list3 hlen
  obtain ⟨y0, y1, y2, rfl⟩ := list3 (l := xs) hxl
  have g0 := hf 0 _ rfl
  have g1 := hf 1 _ rfl
  have g2 := hf 2 _ rfl
  clear hf hxl hlen hxy h
  simp only [List.getElem?_cons_zero, List.getElem?_cons_succ] at g0 g1 g2
  obtain ⟨n0, e0, _, w0⟩ := DataW.trod_int Try.underlying3 g0
  obtain ⟨n1, e1, _, w1⟩ := DataW.trod_int Try.underlying26 g1
  obtain ⟨n2, e2, _, w2⟩ := DataW.trod_int Try.underlying3 g2
  cases e0; cases e1; cases e2
  have g1 := lou64 w1
  refine ⟨n0, n1.toNat, n2, ?_, by omega⟩
  rw [Int.toNat_of_nonneg g1.1]
set_option maxRecDepth 100000 in
theorem open_task {H : Type} {enc : TypeId × Value → H} {W : World} {base : Nat} {spare : Nat → Bool} {held : Bool} (fuel : Nat) (cs : List Value) (x : DataW H × List MemPlace) (h : DataW.trod enc Try.prog W base spare held fuel 33 cs = some x) :
    ∃ a b c d e : Int, cs = [.int .i64 a, .int .i64 b, .int .i64 c, .int .i64 d, .int .i64 e] := by
  obtain ⟨xs, k, hk, hxy, hlen, hxl, hf⟩ := DataW.trod_struct Try.underlying33 h
  rw [cells29] at hlen
  obtain ⟨c0, c1, c2, c3, c4, rfl⟩ := list5 hlen
  obtain ⟨y0, y1, y2, y3, y4, rfl⟩ := list5 (l := xs) hxl
  have g0 := hf 0 _ rfl
  have g1 := hf 1 _ rfl
  have g2 := hf 2 _ rfl
  have g3 := hf 3 _ rfl
  have g4 := hf 4 _ rfl
  clear hf hxl hlen hxy h
  simp only [List.getElem?_cons_zero, List.getElem?_cons_succ] at g0 g1 g2 g3 g4
  obtain ⟨n0, e0, _, _⟩ := DataW.trod_int Try.underlying3 g0
  obtain ⟨n1, e1, _, _⟩ := DataW.trod_int Try.underlying3 g1
  obtain ⟨n2, e2, _, _⟩ := DataW.trod_int Try.underlying3 g2
  obtain ⟨n3, e3, _, _⟩ := DataW.trod_int Try.underlying3 g3
  obtain ⟨n4, e4, _, _⟩ := DataW.trod_int Try.underlying3 g4
  cases e0; cases e1; cases e2; cases e3; cases e4
  exact ⟨_, _, _, _, _, rfl⟩
theorem isV5 {W : World} {n : Nat} {v0 v1 v2 v3 v4 : Value} {t : Tv} (h : Is W n (.agg #[v0, v1, v2, v3, v4]) t) {cs : Array Value} {p : Nat} (h0 : cs[p]? = some v0) (h1 : cs[p + 1]? = some v1) (h2 : cs[p + 2]? = some v2) (h3 : cs[p + 3]? = some v3) (h4 : cs[p + 4]? = some v4) : V5 (Is W n) cs p t := by
  obtain ⟨k, x, b, s, a, m, c, rfl, rfl, rfl, rfl, rfl⟩ := h.shape
  exact ⟨k, x, b, s, a, m, c, h0, h1, h2, h3, h4, h⟩
set_option maxRecDepth 100000 in
theorem open_up {H : Type} {enc : TypeId × Value → H} {W : World} {base : Nat} {spare : Nat → Bool} {held : Bool} (fuel : Nat) (cs : List Value) (x : DataW H × List MemPlace) (h : DataW.trod enc Try.prog W base spare held fuel 52 cs = some x) (hwt : ∀ y ∈ x.1.weights Try.prog 52, y ≤ reachBytes) :
    ∃ (u : Up) (n : Nat), IsU (Is W n) cs.toArray u ∧ SmallW n u.v ∧ SmallW n u.o := by
  obtain ⟨xs, q, hk, hxy, hlen, hxl, hf⟩ := DataW.trod_struct Try.underlying52 h
  rw [cells40] at hlen
  obtain ⟨a0, a1, a2, a3, a4, a5, a6, a7, a8, a9, a10, a11, rfl⟩ := list12 hlen
  obtain ⟨y0, y1, y2, y3, rfl⟩ := list4 (l := xs) hxl
  have hw1 : ∀ y ∈ y1.1.weights Try.prog 29, y ≤ reachBytes := fun y hy => by
    apply hwt
    rw [hxy]
    simp only [DataW.weights, Try.underlying52]
    exact DataW.weights_mem_each (j := 1) rfl rfl y hy
  have hw3 : ∀ y ∈ y3.1.weights Try.prog 29, y ≤ reachBytes := fun y hy => by
    apply hwt
    rw [hxy]
    simp only [DataW.weights, Try.underlying52]
    exact DataW.weights_mem_each (j := 3) rfl rfl y hy
  clear hwt
  have g0 := hf 0 _ rfl
  have g1 := hf 1 _ rfl
  have g2 := hf 2 _ rfl
  have g3 := hf 3 _ rfl
  clear hf hxl hlen hxy h
  simp only [List.getElem?_cons_zero, List.getElem?_cons_succ] at g0 g1 g2 g3
  obtain ⟨s0, p0, _, _⟩ := DataW.trod_string Try.underlying9 g0
  obtain ⟨v0, v1, v2, v3, v4, t1, m1, p1, i1, sm1⟩ := open_valW q _ _ g1 hw1
  obtain ⟨n2, p2, _, _⟩ := DataW.trod_int Try.underlying3 g2
  obtain ⟨o0, o1, o2, o3, o4, t3, m3, p3, i3, sm3⟩ := open_valW q _ _ g3 hw3
  cases p0; cases p1; cases p2; cases p3
  refine ⟨⟨s0, t1, n2, t3⟩, m1 + m3, ⟨rfl, rfl, isV5 (i1.up (by omega)) rfl rfl rfl rfl rfl, rfl, isV5 (i3.up (by omega)) rfl rfl rfl rfl rfl⟩, sm1.up (by omega), sm3.up (by omega)⟩
set_option maxRecDepth 100000 in
theorem open_sta {H : Type} {enc : TypeId × Value → H} {W : World} {base : Nat} {spare : Nat → Bool} {held : Bool} (fuel : Nat) (cs : List Value) (x : DataW H × List MemPlace) (h : DataW.trod enc Try.prog W base spare held fuel 37 cs = some x) (hwt : ∀ y ∈ x.1.weights Try.prog 37, y ≤ reachBytes) :
    ∃ (s : Sta) (n : Nat), Rs W n cs.toArray s ∧ SmS n s ∧ s.pc < 18446744073709551616 := by
  obtain ⟨xs, q, hk, hxy, hlen, hxl, hf⟩ := DataW.trod_struct Try.underlying37 h
  rw [cells33] at hlen
  obtain ⟨a0, a1, a2, a3, a4, a5, a6, a7, a8, a9, a10, a11, a12, a13, a14, a15, a16, a17, a18, a19, a20, a21, a22, a23, a24, a25, a26, a27, a28, a29, a30, rfl⟩ := list31 hlen
  obtain ⟨y0, y1, y2, y3, y4, y5, y6, y7, y8, y9, y10, y11, y12, y13, y14, y15, y16, rfl⟩ := list17 (l := xs) hxl
  have hw8 : ∀ y ∈ y8.1.weights Try.prog 29, y ≤ reachBytes := fun y hy => by
    apply hwt
    rw [hxy]
    simp only [DataW.weights, Try.underlying37]
    exact DataW.weights_mem_each (j := 8) rfl rfl y hy
  have hw13 : ∀ y ∈ y13.1.weights Try.prog 34, y ≤ reachBytes := fun y hy => by
    apply hwt
    rw [hxy]
    simp only [DataW.weights, Try.underlying37]
    exact DataW.weights_mem_each (j := 13) rfl rfl y hy
  have hw14 : ∀ y ∈ y14.1.weights Try.prog 35, y ≤ reachBytes := fun y hy => by
    apply hwt
    rw [hxy]
    simp only [DataW.weights, Try.underlying37]
    exact DataW.weights_mem_each (j := 14) rfl rfl y hy
  have hw15 : ∀ y ∈ y15.1.weights Try.prog 29, y ≤ reachBytes := fun y hy => by
    apply hwt
    rw [hxy]
    simp only [DataW.weights, Try.underlying37]
    exact DataW.weights_mem_each (j := 15) rfl rfl y hy
  clear hwt
  have g0 := hf 0 _ rfl
  have g1 := hf 1 _ rfl
  have g2 := hf 2 _ rfl
  have g3 := hf 3 _ rfl
  have g4 := hf 4 _ rfl
  have g5 := hf 5 _ rfl
  have g6 := hf 6 _ rfl
  have g7 := hf 7 _ rfl
  have g8 := hf 8 _ rfl
  have g9 := hf 9 _ rfl
  have g10 := hf 10 _ rfl
  have g11 := hf 11 _ rfl
  have g12 := hf 12 _ rfl
  have g13 := hf 13 _ rfl
  have g14 := hf 14 _ rfl
  have g15 := hf 15 _ rfl
  have g16 := hf 16 _ rfl
  clear hf hxl hlen hxy h
  simp only [List.getElem?_cons_zero, List.getElem?_cons_succ] at g0 g1 g2 g3 g4 g5 g6 g7 g8 g9 g10 g11 g12 g13 g14 g15 g16
  obtain ⟨n0, p0, _, _⟩ := DataW.trod_int Try.underlying3 g0
  obtain ⟨n1, p1, _, _⟩ := DataW.trod_int Try.underlying3 g1
  obtain ⟨n2, p2, _, _⟩ := DataW.trod_int Try.underlying3 g2
  obtain ⟨n3, p3, _, _⟩ := DataW.trod_int Try.underlying3 g3
  obtain ⟨n4, p4, _, _⟩ := DataW.trod_int Try.underlying3 g4
  obtain ⟨n5, p5, _, _⟩ := DataW.trod_int Try.underlying3 g5
  obtain ⟨n6, p6, _, _⟩ := DataW.trod_int Try.underlying3 g6
  obtain ⟨s7, p7, _, _⟩ := DataW.trod_string Try.underlying9 g7
  obtain ⟨v0, v1, v2, v3, v4, t8, m8, p8, i8, sm8⟩ := open_valW q _ _ g8 hw8
  obtain ⟨f9, c9, m9, p9, q9⟩ := open_po q _ _ g9
  obtain ⟨k0, k1, k2, k3, k4, p10⟩ := open_task q _ _ g10
  obtain ⟨b11, p11, _⟩ := DataW.trod_bool Try.underlying4 g11
  obtain ⟨b12, p12, _⟩ := DataW.trod_bool Try.underlying4 g12
  obtain ⟨ta, tc, tq, trows, p13, _, ht⟩ := open_rows Try.underlying34 cells38 (by decide) q _ _ g13 hw13
  obtain ⟨ua, uc, uq, urows, p14, _, hu⟩ := open_rows Try.underlying35 cells40 (by decide) q _ _ g14 hw14
  obtain ⟨o0, o1, o2, o3, o4, t15, m15, p15, i15, sm15⟩ := open_valW q _ _ g15 hw15
  obtain ⟨s16, p16, _, _⟩ := DataW.trod_string Try.underlying9 g16
  cases p0; cases p1; cases p2; cases p3; cases p4; cases p5; cases p6; cases p7; cases p8; cases p9; cases p10; cases p11; cases p12; cases p13; cases p14; cases p15; cases p16
  have inh1 : Inhabited Tm := ⟨⟨⟨#[]⟩, 0⟩⟩
  have inh2 : Inhabited (Up × Nat) := ⟨⟨⟨#[]⟩, t8, 0, t8⟩, 0⟩
  have et : ∀ i, i < trows.length → ∃ t : Tm, trows[i]? = some [.string t.s, .int .i64 t.d] := fun i hi => by
    obtain ⟨_, _, y, hy, _⟩ := ht i _ (List.getElem?_eq_getElem hi)
    obtain ⟨t, e, _⟩ := open_tm _ _ _ hy
    exact ⟨t, by rw [List.getElem?_eq_getElem hi, e]⟩
  have eu : ∀ i, i < urows.length → ∃ u : Up × Nat, ∃ r, urows[i]? = some r ∧ IsU (Is W u.2) r.toArray u.1 ∧ SmallW u.2 u.1.v ∧ SmallW u.2 u.1.o := fun i hi => by
    obtain ⟨_, _, y, hy, hz⟩ := hu i _ (List.getElem?_eq_getElem hi)
    obtain ⟨u, n, e⟩ := open_up _ _ _ hy hz
    exact ⟨(u, n), _, List.getElem?_eq_getElem hi, e⟩
  obtain ⟨FT, hFT⟩ := choose_lt et
  obtain ⟨FU, hFU⟩ := choose_lt eu
  obtain ⟨N, hN⟩ := fuel_lt (n := urows.length) (q := fun i N => (FU i).2 ≤ N) (fun _ _ _ h h' => Nat.le_trans h' h) (fun i _ => ⟨_, Nat.le_refl _⟩)
  have hup : ∀ (i : Nat) u, ((List.range urows.length).map fun i => (FU i).1)[i]? = some u → i < urows.length ∧ u = (FU i).1 := fun i u h => by
    have hi : i < urows.length := by have := (List.getElem?_eq_some_iff.1 h).1; simpa using this
    rw [List.getElem?_map, List.getElem?_range hi] at h
    cases h
    exact ⟨hi, rfl⟩
  refine ⟨⟨n0, n1, n2, n3, n4, n5, n6, s7, t8, f9, c9, m9, k0, k1, k2, k3, k4, b11, b12, (List.range trows.length).map FT, (List.range urows.length).map fun i => (FU i).1, t15, s16⟩, m8 + m15 + N, ?_, ⟨sm8.up (by omega), sm15.up (by omega), fun i u h => ?_⟩, q9⟩
  · refine { size := rfl, c0 := rfl, c1 := rfl, c2 := rfl, c3 := rfl, c4 := rfl, c5 := rfl, c6 := rfl, c7 := rfl, c13 := rfl, c14 := rfl, c15 := rfl, c16 := rfl, c17 := rfl, c18 := rfl, c19 := rfl, c20 := rfl, c21 := rfl, c22 := rfl, c30 := rfl, inp := isV5 (i8.up (by omega)) rfl rfl rfl rfl rfl, res := isV5 (i15.up (by omega)) rfl rfl rfl rfl rfl, tm := ⟨ta, tc, by simp, fun i r hr => ?_⟩, up := ⟨ua, uc, urows.map List.toArray, by simp, by simp, fun i r hr => ?_, fun i r u hr h => ?_⟩ }
    · have hi : i < trows.length := by have := (List.getElem?_eq_some_iff.1 hr).1; simpa using this
      rw [List.getElem?_map, List.getElem?_map, List.getElem?_range hi] at hr
      cases hr
      obtain ⟨_, ⟨B, o, h2, h3⟩, _⟩ := ht i _ (hFT i hi)
      refine ⟨rfl, fun j v hj => ?_, B, o, h2, trivial, fun j v hj => h3 j v (by simpa [Tm.cells] using hj)⟩
      have hj2 : [Value.string (FT i).s, .int .i64 (FT i).d][j]? = some v := by simpa [Tm.cells] using hj
      have hm := List.mem_of_getElem? hj2
      simp only [List.mem_cons, List.not_mem_nil, or_false] at hm
      rcases hm with rfl | rfl <;> rfl
    · have hi : i < urows.length := by have := (List.getElem?_eq_some_iff.1 hr).1; simpa using this
      obtain ⟨r', hr', e⟩ := hFU i hi
      rw [List.getElem?_map, hr'] at hr
      cases hr
      obtain ⟨h1, ⟨B, o, h2, h3⟩, _⟩ := hu i _ hr'
      exact ⟨by simpa using h1, e.1.one, B, o, h2, trivial, fun j v hj => h3 j v (by simpa using hj)⟩
    · obtain ⟨hi, rfl⟩ := hup i u h
      obtain ⟨r', hr', e⟩ := hFU i hi
      rw [List.getElem?_map, hr'] at hr
      cases hr
      exact e.1.map fun v t hv => hv.up (by have := hN i hi; omega)
  · obtain ⟨hi, rfl⟩ := hup i u h
    obtain ⟨r', hr', e⟩ := hFU i hi
    exact ⟨e.2.1.up (by have := hN i hi; omega), e.2.2.up (by have := hN i hi; omega)⟩
end Go.Proofs.Ytghclnpklindgaa
namespace Go.Proofs.Ytghclnpklindgaa
open Go.ChangeAt Go.ChangeShapes Go.Deep Go.RowKit Go.WideShapes
theorem list7 {α : Type} : ∀ {l : List α}, l.length = 7 → ∃ a0 a1 a2 a3 a4 a5 a6, l = [a0, a1, a2, a3, a4, a5, a6]
  | [a0, a1, a2, a3, a4, a5, a6], _ => ⟨a0, a1, a2, a3, a4, a5, a6, rfl⟩
theorem list13 {α : Type} : ∀ {l : List α}, l.length = 13 → ∃ a0 a1 a2 a3 a4 a5 a6 a7 a8 a9 a10 a11 a12, l = [a0, a1, a2, a3, a4, a5, a6, a7, a8, a9, a10, a11, a12]
  | [a0, a1, a2, a3, a4, a5, a6, a7, a8, a9, a10, a11, a12], _ => ⟨a0, a1, a2, a3, a4, a5, a6, a7, a8, a9, a10, a11, a12, rfl⟩
theorem cells45 : Try.prog.cellsOf 45 = 13 := by kernel_rfl
set_option maxRecDepth 100000 in
theorem open_e13 {H : Type} {enc : TypeId × Value → H} {W : World} {base : Nat} {spare : Nat → Bool} {held : Bool} (fuel : Nat) (cs : List Value) (x : DataW H × List MemPlace) (h : DataW.trod enc Try.prog W base spare held fuel 45 cs = some x) (hwt : ∀ y ∈ x.1.weights Try.prog 45, y ≤ reachBytes) :
    ∃ (e : Ev) (n : Nat), IsEv (Is W n) cs.toArray e ∧ SmallW n e.v ∧ e.c < 18446744073709551616 := by
  obtain ⟨xs, q, hk, hxy, hlen, hxl, hf⟩ := DataW.trod_struct Try.underlying45 h
  rw [cells45] at hlen
  obtain ⟨a0, a1, a2, a3, a4, a5, a6, a7, a8, a9, a10, a11, a12, rfl⟩ := list13 hlen
  obtain ⟨y0, y1, y2, y3, y4, y5, y6, rfl⟩ := list7 (l := xs) hxl
  have hw5 : ∀ y ∈ y5.1.weights Try.prog 29, y ≤ reachBytes := fun y hy => by
    apply hwt
    rw [hxy]
    simp only [DataW.weights, Try.underlying45]
    exact DataW.weights_mem_each (j := 5) rfl rfl y hy
  clear hwt
  have g0 := hf 0 _ rfl
  have g1 := hf 1 _ rfl
  have g2 := hf 2 _ rfl
  have g3 := hf 3 _ rfl
  have g4 := hf 4 _ rfl
  have g5 := hf 5 _ rfl
  have g6 := hf 6 _ rfl
  clear hf hxl hlen hxy h
  simp only [List.getElem?_cons_zero, List.getElem?_cons_succ] at g0 g1 g2 g3 g4 g5 g6
  obtain ⟨n0, p0, _, _⟩ := DataW.trod_int Try.underlying3 g0
  obtain ⟨n1, p1, _, _⟩ := DataW.trod_int Try.underlying3 g1
  obtain ⟨n2, p2, _, _⟩ := DataW.trod_int Try.underlying3 g2
  obtain ⟨n3, p3, _, _⟩ := DataW.trod_int Try.underlying3 g3
  obtain ⟨s4, p4, _, _⟩ := DataW.trod_string Try.underlying9 g4
  obtain ⟨v0, v1, v2, v3, v4, t5, m5, p5, i5, sm5⟩ := open_valW q _ _ g5 hw5
  obtain ⟨f6, c6, m6, p6, q6⟩ := open_po q _ _ g6
  cases p0; cases p1; cases p2; cases p3; cases p4; cases p5; cases p6
  exact ⟨⟨n0, n1, n2, n3, s4, t5, f6, c6, m6⟩, m5, ⟨rfl, rfl, rfl, rfl, rfl, rfl, isV5 i5 rfl rfl rfl rfl rfl, rfl, rfl, rfl⟩, sm5, q6⟩
theorem isP_of_is {w : World} : ∀ {n : Nat} {v : Value} {t : Tv}, Is w n v t → IsP (fun b => b < w.heap.size) w n v t
  | 0, _, _, h => h
  | n + 1, v, .mk k x b s l, ⟨a, c, hv, hf, hr⟩ => ⟨a, c, hv, hf, fun i t ht => by
      obtain ⟨B, o, c0, c1, c2, c3, c4, ha, h5, hi⟩ := hr i t ht
      exact ⟨B, o, c0, c1, c2, c3, c4, ha, World.block_lt_of_cell? w _ h5.1, h5, isP_of_is hi⟩⟩
theorem open_evs {H : Type} {enc : TypeId × Value → H} {W : World} {base : Nat} {spare : Nat → Bool} {held : Bool} (fuel : Nat) (cs : List Value) (x : DataW H × List MemPlace) (h : DataW.trod enc Try.prog W base spare held fuel 22 cs = some x) (hwt : ∀ y ∈ x.1.weights Try.prog 22, y ≤ reachBytes) :
    ∃ (a : Option Addr) (c : Nat) (l : List Ev) (n : Nat), cs = [.slice a l.length c] ∧ l.length ≤ c ∧ IsL W.heap.size W (n + 1) a l ∧ SmL (n + 1) l := by
  have hcap : ∀ a n c, cs = [.slice a n c] → n ≤ c := fun a n c e => by
    rcases DataW.trod_slice Try.underlying22 h with ⟨h4, _⟩ | ⟨a', len, cap, elems, rest, q, hq, h4, _, _, hl, _⟩
    · rw [e] at h4; cases h4; exact Nat.le_refl _
    · rw [e] at h4; cases h4; exact hl
  obtain ⟨a, cap, q, rows, hcs, _, hr⟩ := open_rows Try.underlying22 cells45 (by decide) fuel _ _ h hwt
  have inh : Inhabited (Ev × Nat) := ⟨⟨0, 0, 0, 0, ⟨#[]⟩, zE, 0, 0, 0⟩, 0⟩
  have each : ∀ i, i < rows.length → ∃ u : Ev × Nat, ∃ r, rows[i]? = some r ∧ IsEv (Is W u.2) r.toArray u.1 ∧ SmallW u.2 u.1.v ∧ u.1.c < 18446744073709551616 := fun i hi => by
    obtain ⟨_, _, y, hy, hz⟩ := hr i _ (List.getElem?_eq_getElem hi)
    obtain ⟨e, n, g⟩ := open_e13 _ _ _ hy hz
    exact ⟨(e, n), _, List.getElem?_eq_getElem hi, g⟩
  obtain ⟨F, hF⟩ := choose_lt each
  obtain ⟨N, hN⟩ := fuel_lt (n := rows.length) (q := fun i N => (F i).2 ≤ N) (fun _ _ _ h h' => Nat.le_trans h' h) (fun i _ => ⟨_, Nat.le_refl _⟩)
  have hl : ((List.range rows.length).map fun i => (F i).1).length = rows.length := by simp
  have hget : ∀ (i : Nat) e, ((List.range rows.length).map fun i => (F i).1)[i]? = some e → i < rows.length ∧ e = (F i).1 := fun i e h => by
    have hi : i < rows.length := by have := (List.getElem?_eq_some_iff.1 h).1; simpa using this
    rw [List.getElem?_map, List.getElem?_range hi] at h
    cases h
    exact ⟨hi, rfl⟩
  refine ⟨a, cap, (List.range rows.length).map fun i => (F i).1, N, by rw [hl]; exact hcs, by rw [hl]; exact hcap _ _ _ hcs, ⟨rows.map List.toArray, by simp, fun i r h => ?_, fun i r e h he => ?_⟩, fun i e he => ?_⟩
  · have hi : i < rows.length := by have := (List.getElem?_eq_some_iff.1 h).1; simpa using this
    obtain ⟨r', hr', g⟩ := hF i hi
    rw [List.getElem?_map, hr'] at h
    cases h
    obtain ⟨h1, ⟨B, o, h2, h3⟩, _⟩ := hr i _ hr'
    refine ⟨by simpa using h1, g.1.one, B, o, h2, ?_, fun j v hj => h3 j v (by simpa using hj)⟩
    exact World.block_lt_of_cell? W ⟨B, o + i * 13 + 0, none⟩ (h3 0 _ (List.getElem?_eq_getElem (by omega)))
  · obtain ⟨hi, rfl⟩ := hget i e he
    obtain ⟨r', hr', g⟩ := hF i hi
    rw [List.getElem?_map, hr'] at h
    cases h
    exact g.1.map fun v t hv => isP_of_is (hv.up (by have := hN i hi; omega))
  · obtain ⟨hi, rfl⟩ := hget i e he
    obtain ⟨r', hr', g⟩ := hF i hi
    exact ⟨g.2.1.up (by have := hN i hi; omega), g.2.2⟩
end Go.Proofs.Ytghclnpklindgaa
namespace Go.Proofs.Ytghclnpklindgaa
open Go.ChangeShapes Go.WideShapes Go.ChangeAt Go.RowKit
/-- A state of this Run, with nothing else. -/
def zSr (r : Int) : Array Value := #[.int .i64 r, .int .i64 0, .int .i64 0, .int .i64 0, .int .i64 0, .int .i64 0, .int .i64 0, .string ⟨#[]⟩, .int .i64 0, .int .i64 0, .int .u64 0, .string ⟨#[]⟩, .slice none 0 0, .int .i64 0, .int .u64 0, .int .i64 0, .int .i64 0, .int .i64 0, .int .i64 0, .int .i64 0, .int .i64 0, .bool false, .bool false, .slice none 0 0, .slice none 0 0, .int .i64 0, .int .i64 0, .int .u64 0, .string ⟨#[]⟩, .slice none 0 0, .string ⟨#[]⟩]
def s0 (r : Int) : Sta := ⟨r, 0, 0, 0, 0, 0, 0, ⟨#[]⟩, zE, 0, 0, 0, 0, 0, 0, 0, 0, false, false, [], [], zE, ⟨#[]⟩⟩
theorem s0_ps (ok : Nat → Prop) (r : Int) (w : World) (n : Nat) : Ps ok w (n + 1) (zSr r) (s0 r) :=
  { size := rfl, c0 := rfl, c1 := rfl, c2 := rfl, c3 := rfl, c4 := rfl, c5 := rfl, c6 := rfl, c7 := rfl, c13 := rfl, c14 := rfl, c15 := rfl, c16 := rfl, c17 := rfl, c18 := rfl, c19 := rfl, c20 := rfl, c21 := rfl, c22 := rfl, c30 := rfl, inp := ⟨0, 0, 0, ⟨#[]⟩, none, 0, 0, rfl, rfl, rfl, rfl, rfl, zE_isP _ w n⟩, res := ⟨0, 0, 0, ⟨#[]⟩, none, 0, 0, rfl, rfl, rfl, rfl, rfl, zE_isP _ w n⟩, tm := ⟨none, 0, rfl, fun i r h => by simp [s0] at h⟩, up := ⟨none, 0, [], rfl, rfl, fun i r h => by simp at h, fun i r u h => by simp at h⟩ }
theorem smallZ (n : Nat) : SmallW (n + 1) zE := ⟨by decide, fun i t h => by simp at h⟩
theorem sml0 (n : Nat) (r : Int) : Sml (n + 1) (s0 r) := ⟨⟨smallZ n, smallZ n, fun i u h => by simp [s0] at h⟩, Nat.zero_le _, Nat.zero_le _⟩
theorem zE_may : May 1 zE := by
  refine ⟨?_, by decide +kernel⟩
  refine ⟨?_, by decide, fun i t h => by simp at h⟩
  unfold Fits FitsB
  exact ⟨by decide, by decide, .inr rfl, .inr rfl, by decide +kernel, .inr (by decide +kernel), by decide, .inr rfl, by decide⟩
theorem infoZ : (Try.prog.info? 37).map (·.size) = some zS.size := info33s zS rfl
theorem infoR (r : Int) : (Try.prog.info? 37).map (·.size) = some (zSr r).size := info33s (zSr r) rfl
theorem oneR (r : Int) (w : World) : (zSr r).all (·.oneCell') = true := all_one (s0_ps (fun _ => True) r w 0).one
theorem oneZ (w : World) : zS.all (·.oneCell') = true := oneR 0 w
/-- What unstarted answers. -/
def UnP (r : Int) (w : World) (e : Ending) (w' : World) : Prop := ((1 ≤ r ∧ r ≤ 10 → e = .returned (.tuple #[.agg (zSr r), .bool true])) ∧ (¬ (1 ≤ r ∧ r ≤ 10) → e = .returned (.tuple #[.agg zS, .bool false]))) ∧ Below w.heap.size w w'
set_option maxHeartbeats 2000000 in
set_option maxRecDepth 100000 in
theorem unstarted_calls (r : Int) (w : World) : Calls Try.prog 9 #[.int .i64 r] w (UnP r w) := by
  have n1 : (w.alloc (.cells zS 37)).heap[w.heap.size]? = some (.cells zS 37 (0, 0)) := heap_alloc_new w _
  have hT : Hid (1 ≤ r ∧ r ≤ 10 → ∀ W, Below w.heap.size w W → UnP r w (.returned (.tuple #[.agg (zSr r), .bool true])) W) := fun h W hb => ⟨⟨fun _ => rfl, fun h' => absurd h h'⟩, hb⟩
  have hF : Hid (¬ (1 ≤ r ∧ r ≤ 10) → ∀ W, Below w.heap.size w W → UnP r w (.returned (.tuple #[.agg zS, .bool false])) W) := fun h W hb => ⟨⟨fun h' => absurd h' h, fun _ => rfl⟩, hb⟩
  generalize UnP r w = Q at hT hF ⊢
  have iz := infoZ
  have ir := infoR r
  have oz := oneZ w
  have orr := oneR r w
  have hzr : zS.size = (zSr r).size := rfl
  have k1 := setRow_heap (w.alloc (.cells zS 37)) w.heap.size zS zS 37 (0, 0) n1
  have k2 := setRow_heap (w.alloc (.cells zS 37)) w.heap.size zS (zSr r) 37 (0, 0) n1
  have l1 : (loadVar 37 ⟨w.heap.size, 0, none⟩).run Try.prog ((w.alloc (.cells zS 37)).setRow w.heap.size zS) = .ok (.agg zS) ((w.alloc (.cells zS 37)).setRow w.heap.size zS) := run_loadVar_row _ w.heap.size 37 37 zS (0, 0) _ k1 Try.underlying37 rfl iz
  have l2 : (loadVar 37 ⟨w.heap.size, 0, none⟩).run Try.prog ((w.alloc (.cells zS 37)).setRow w.heap.size (zSr r)) = .ok (.agg (zSr r)) ((w.alloc (.cells zS 37)).setRow w.heap.size (zSr r)) := run_loadVar_row _ w.heap.size 37 37 (zSr r) (0, 0) _ k2 Try.underlying37 rfl ir
  have hb := bel1 w (.cells zS 37)
  have L1 : Hid (_ = _) := l1
  have L2 : Hid (_ = _) := l2
  clear k1 k2 l1 l2
  by_cases hr1 : r < 1
  · have d1 : decide (r < 1) = true := decide_eq_true hr1
    have HN : Hid (¬ (1 ≤ r ∧ r ≤ 10)) := (by omega : ¬ (1 ≤ r ∧ r ≤ 10))
    have HBl : Hid (Below w.heap.size w (w.alloc (.cells zS 37))) := hb
    clear hb hT
    go_enter Try.func9, Try.ntmps9
    go_wp2_with (refine wpList_store_row rfl 37 _ _ rfl w.heap.size zS rfl rfl 37 zS n1 iz rfl oz ?_)
    exact bodyPost_ret (v := .tuple #[.agg zS, .bool false]) (ret_cell_tmp Try.results9 _ rfl rfl L1.out) rfl (hF.out HN.out _ (below_setRow HBl.out (Nat.le_refl _) _))
  · have d1 : decide (r < 1) = false := decide_eq_false hr1
    by_cases hr2 : r > 10
    · have d2 : decide (r > 10) = true := decide_eq_true hr2
      have HN : Hid (¬ (1 ≤ r ∧ r ≤ 10)) := (by omega : ¬ (1 ≤ r ∧ r ≤ 10))
      have HBl : Hid (Below w.heap.size w (w.alloc (.cells zS 37))) := hb
      clear hb hT
      go_enter Try.func9, Try.ntmps9
      go_wp2_with (refine wpList_store_row rfl 37 _ _ rfl w.heap.size zS rfl rfl 37 zS n1 iz rfl oz ?_)
      exact bodyPost_ret (v := .tuple #[.agg zS, .bool false]) (ret_cell_tmp Try.results9 _ rfl rfl L1.out) rfl (hF.out HN.out _ (below_setRow HBl.out (Nat.le_refl _) _))
    · have d2 : decide (r > 10) = false := decide_eq_false hr2
      have HN : Hid (1 ≤ r ∧ r ≤ 10) := (by omega : 1 ≤ r ∧ r ≤ 10)
      have HBl : Hid (Below w.heap.size w (w.alloc (.cells zS 37))) := hb
      clear hb hF
      go_enter Try.func9, Try.ntmps9
      go_wp2_with (refine wpList_store_row rfl 37 _ _ rfl w.heap.size (zSr r) rfl rfl 37 zS n1 ir hzr orr ?_)
      exact bodyPost_ret (v := .tuple #[.agg (zSr r), .bool true]) (ret_cell_tmp Try.results9 _ rfl rfl L2.out) rfl (hT.out HN.out _ (below_setRow HBl.out (Nat.le_refl _) _))
/-- What Build answers. -/
def BuP (n : Nat) (r : Int) (l : List Ev) (w : World) (e : Ending) (w' : World) : Prop :=
  (∃ (cs' : Array Value) (s' : Sta) (k : Nat) (code : Int), e = .returned (.tuple #[.agg cs', .int .i64 (k : Int), .int .i64 code]) ∧ Rs w' (n + 1) cs' s' ∧ Sml (n + 1) s' ∧ ((1 ≤ r ∧ r ≤ 10 ∧ FoE (n + 1) (s0 r) l s' k code) ∨ (¬ (1 ≤ r ∧ r ≤ 10) ∧ s' = s0 0 ∧ k = 0 ∧ code = 1))) ∧ Below w.heap.size w w'
set_option maxHeartbeats 4000000 in
set_option maxRecDepth 100000 in
theorem build_calls (n : Nat) (r : Int) (a : Option Addr) (c : Nat) (l : List Ev) (w : World) (hL : IsL w.heap.size w (n + 1) a l) (hS : SmL (n + 1) l) (hll : l.length ≤ 1000) :
    Calls Try.prog 6 #[.int .i64 r, .slice a l.length c] w (BuP n r l w) := by
  have HL : Hid (IsL w.heap.size w (n + 1) a l ∧ SmL (n + 1) l ∧ l.length ≤ 1000) := ⟨hL, hS, hll⟩
  have HQ : Hid (∀ cs' s' (k : Nat) code w', Rs w' (n + 1) cs' s' → Sml (n + 1) s' → ((1 ≤ r ∧ r ≤ 10 ∧ FoE (n + 1) (s0 r) l s' k code) ∨ (¬ (1 ≤ r ∧ r ≤ 10) ∧ s' = s0 0 ∧ k = 0 ∧ code = 1)) → Below w.heap.size w w' → BuP n r l w (.returned (.tuple #[.agg cs', .int .i64 (k : Int), .int .i64 code])) w') := fun cs' s' k code w' a1 a2 a3 a4 => ⟨⟨cs', s', k, code, rfl, a1, a2, a3⟩, a4⟩
  generalize BuP n r l w = Q at HQ ⊢
  have n0 : (w.alloc (.cells zS 37)).heap[w.heap.size]? = some (.cells zS 37 (0, 0)) := heap_alloc_new w _
  have HB0 : Hid (Below w.heap.size w (w.alloc (.cells zS 37))) := bel1 _ _
  have KU : Hid (∀ W, Calls Try.prog 9 #[.int .i64 r] W (UnP r W)) := fun W => unstarted_calls r W
  clear hL hS hll
  go_enter Try.func6, Try.ntmps6
  go_upto_region 1 with fail
  change Code.wp _ _ _ _ (w.alloc (.cells zS 37))
  have HZ0 : Hid (w.heap.size < (w.alloc (.cells zS 37)).heap.size) := by show _ < _; simp
  generalize w.alloc (.cells zS 37) = W0 at n0 HB0 HZ0 ⊢
  go_wp2_with fail
  refine (KU.out _).mono ?_
  rintro e w1 ⟨hu, hb⟩
  have s0' := row_below hb n0
  have HB1 : Hid (Below w.heap.size w w1) := bel2 HB0.out hb
  have HZ1 : Hid (w.heap.size < w1.heap.size) := Nat.lt_of_lt_of_le HZ0.out hb.size
  have n1 : (w1.alloc (.cells zS 37)).heap[w1.heap.size]? = some (.cells zS 37 (0, 0)) := heap_alloc_new w1 _
  have iz := infoZ
  have oz := oneZ w
  clear hb n0 KU HZ0 HB0
  by_cases hr : 1 ≤ r ∧ r ≤ 10
  · obtain rfl := hu.1 hr
    have HR : Hid (1 ≤ r ∧ r ≤ 10) := hr
    have ir := infoR r
    have orr := oneR r w
    have hzr : zS.size = (zSr r).size := rfl
    clear hu hr
    go_upto_region 2 with (refine wpList_store_row rfl 37 _ _ rfl w1.heap.size (zSr r) rfl rfl 37 zS n1 ir hzr orr ?_)
    rw [World.setRow_alloc_new]
    have hb := bel1 w1 (.cells (zSr r) 37)
    have t0 := row_below hb s0'
    have t7 : (w1.alloc (.cells (zSr r) 37)).heap[w1.heap.size]? = some (.cells (zSr r) 37 (0, 0)) := heap_alloc_new w1 _
    have HB2 : Hid (Below w.heap.size w (w1.alloc (.cells (zSr r) 37))) := bel2 HB1.out hb
    have HZ2 : Hid (w1.heap.size < (w1.alloc (.cells (zSr r) 37)).heap.size) := by show _ < _; simp
    clear hb s0' n1
    generalize w1.alloc (.cells (zSr r) 37) = W2 at t0 t7 HB2 HZ2 ⊢
    have KE := extend_calls (fun b => b ≠ w.heap.size) n (zSr r) (s0 r) a c l W2 (s0_ps _ r W2 n) (fun b hb => by have := HZ1.out; have := HZ2.out; omega) (sml0 n r) ((HL.out.1.below HB2.out).mono HB2.out.size) HL.out.2.1 HL.out.2.2 (smallZ n)
    have HKE : Hid (Calls Try.prog 8 #[.agg (zSr r), .slice a l.length c] W2 (ExP (fun b => b ≠ w.heap.size) n (s0 r) l W2)) := KE
    clear KE
    go_wp2_with (refine wpList_load_row rfl 37 _ rfl w1.heap.size rfl 37 (zSr r) (0, 0) _ t7 Try.underlying37 rfl ir ?_)
    refine HKE.out.mono ?_
    rintro e w3 ⟨⟨c3, s3, k, code, rfl, hfo, hps, hsm⟩, hb⟩
    have u0 := row_below hb t0
    have i3 := info33s c3 hps.size
    have z3 : zS.size = c3.size := hps.size.symm
    have a3 := all_one hps.one
    have HB3 : Hid (Below w.heap.size w w3) := bel2 HB2.out hb
    have HX : Hid (FoE (n + 1) (s0 r) l s3 k code ∧ Sml (n + 1) s3 ∧ Ps (fun b => b ≠ w.heap.size) w3 (n + 1) c3 s3) := ⟨hfo, hsm, hps⟩
    clear hfo hps hsm hb t0 t7 HKE
    go_wp2_with (refine wpList_store_row rfl 37 _ _ rfl w.heap.size c3 rfl rfl 37 zS u0 i3 z3 a3 ?_)
    have k9 := setRow_heap w3 w.heap.size zS c3 37 (0, 0) u0
    have hl : (loadVar 37 ⟨w.heap.size, 0, none⟩).run Try.prog (w3.setRow w.heap.size c3) = .ok (.agg c3) (w3.setRow w.heap.size c3) := run_loadVar_row _ w.heap.size 37 37 c3 (0, 0) _ k9 Try.underlying37 rfl i3
    exact bodyPost_ret (v := .tuple #[.agg c3, .int .i64 (k : Int), .int .i64 code]) (ret_cell_tmp2 Try.results6 _ rfl rfl rfl hl) rfl (HQ.out c3 s3 k code _ (Ps.rs (HX.out.2.2.okk (ok' := fun _ => True) (fun _ _ _ => trivial) (fun b hb hf => setRow_other w3 _ _ _ hf))) HX.out.2.1 (.inl ⟨HR.out.1, HR.out.2, HX.out.1⟩) (below_setRow HB3.out (Nat.le_refl _) _))
  · obtain rfl := hu.2 hr
    have HR : Hid (¬ (1 ≤ r ∧ r ≤ 10)) := hr
    clear hu hr
    go_upto_region 2 with (refine wpList_store_row rfl 37 _ _ rfl w1.heap.size zS rfl rfl 37 zS n1 iz rfl oz ?_)
    rw [World.setRow_alloc_new]
    have hb := bel1 w1 (.cells zS 37)
    have t0 := row_below hb s0'
    have HB2 : Hid (Below w.heap.size w (w1.alloc (.cells zS 37))) := bel2 HB1.out hb
    clear hb s0' n1
    generalize w1.alloc (.cells zS 37) = W2 at t0 HB2 ⊢
    go_wp2_with (refine wpList_store_row rfl 37 _ _ rfl w.heap.size zS rfl rfl 37 zS t0 iz rfl oz ?_)
    have k9 := setRow_heap W2 w.heap.size zS zS 37 (0, 0) t0
    have hl : (loadVar 37 ⟨w.heap.size, 0, none⟩).run Try.prog (W2.setRow w.heap.size zS) = .ok (.agg zS) (W2.setRow w.heap.size zS) := run_loadVar_row _ w.heap.size 37 37 zS (0, 0) _ k9 Try.underlying37 rfl iz
    exact bodyPost_ret (v := .tuple #[.agg zS, .int .i64 ((0 : Nat) : Int), .int .i64 1]) (ret_cell_tmp2 Try.results6 _ rfl rfl rfl hl) rfl (HQ.out zS (s0 0) 0 1 _ (Ps.rs (s0_ps (fun _ => True) 0 _ n)) (sml0 n 0) (.inr ⟨HR.out, rfl, rfl, rfl⟩) (below_setRow HB2.out (Nat.le_refl _) _))
set_option maxHeartbeats 1000000 in
theorem few_calls (a : Option Addr) (m c : Nat) (w : World) : Calls Try.prog 4 #[.slice a m c] w fun e w' => e = .returned (.bool (decide (m ≤ 150))) ∧ Below w.heap.size w w' := by
  go_enter Try.func4, Try.ntmps4
  go_wp2_with fail
  go_ret
  have hd : decide ((m : Int) ≤ 150) = decide (m ≤ 150) := decide_eq_decide.2 (by omega)
  exact ⟨congrArg (fun b => Ending.returned (Value.bool b)) hd, Below.refl _ _⟩
end Go.Proofs.Ytghclnpklindgaa
namespace Go.Proofs.Ytghclnpklindgaa
open Go.ChangeShapes Go.WideShapes Go.ChangeAt Go.RowKit
/-- An event of this kind, number and name, with nothing else. -/
def zEn (k n : Int) (s : ByteArray) : Array Value := #[.int .i64 k, .int .i64 0, .int .i64 n, .int .i64 0, .string s, .int .i64 0, .int .i64 0, .int .u64 0, .string ⟨#[]⟩, .slice none 0 0, .int .i64 0, .int .u64 0, .int .i64 0]
def eN (k n : Int) (s : ByteArray) : Ev := ⟨k, 0, n, 0, s, zE, 0, 0, 0⟩
theorem eN_is (ok : Nat → Prop) (k n : Int) (s : ByteArray) (w : World) : IsEv (IsP ok w 1) (zEn k n s) (eN k n s) :=
  { size := rfl, c0 := rfl, c1 := rfl, c2 := rfl, c3 := rfl, c4 := rfl, v := ⟨0, 0, 0, ⟨#[]⟩, none, 0, 0, rfl, rfl, rfl, rfl, rfl, zE_isP _ w 0⟩, c10 := rfl, c11 := rfl, c12 := rfl }
def evA : List Ev := [eN 1 0 ⟨#[116]⟩, eN 2 1 ⟨#[]⟩, eN 3 0 ⟨#[]⟩]
def rowsA : List (Array Value) := [zEn 1 0 ⟨#[116]⟩, zEn 2 1 ⟨#[]⟩, zEn 3 0 ⟨#[]⟩]
def cellsA : Array Value := (rowsA.flatMap Array.toList).toArray
theorem mayA1 : MayE 1 (eN 1 0 ⟨#[116]⟩) := ⟨by decide +kernel, by decide +kernel, by decide +kernel, .inl ⟨by decide +kernel, zE_may⟩, by decide +kernel⟩
theorem mayA2 : MayE 1 (eN 2 1 ⟨#[]⟩) := ⟨by decide +kernel, by decide +kernel, by decide +kernel, .inr ⟨by decide +kernel, rfl⟩, by decide +kernel⟩
theorem mayA3 : MayE 1 (eN 3 0 ⟨#[]⟩) := ⟨by decide +kernel, by decide +kernel, by decide +kernel, .inr ⟨by decide +kernel, rfl⟩, by decide +kernel⟩
def sA1 : Sta := chg (s0 1) (eN 1 0 ⟨#[116]⟩)
def sA2 : Sta := chg sA1 (eN 2 1 ⟨#[]⟩)
def sA3 : Sta := chg sA2 (eN 3 0 ⟨#[]⟩)
theorem stA1 : StR 1 (s0 1) (eN 1 0 ⟨#[116]⟩) sA1 0 := ⟨fun _ => by decide +kernel, fun h => absurd mayA1 h, rfl⟩
theorem stA2 : StR 1 sA1 (eN 2 1 ⟨#[]⟩) sA2 0 := ⟨fun _ => by decide +kernel, fun h => absurd mayA2 h, rfl⟩
theorem stA3 : StR 1 sA2 (eN 3 0 ⟨#[]⟩) sA3 0 := ⟨fun _ => by decide +kernel, fun h => absurd mayA3 h, rfl⟩
theorem foA : FoE 1 (s0 1) evA sA3 3 0 := ⟨by decide, ⟨sA1, stA1, sA2, stA2, sA3, stA3, rfl⟩, .inl ⟨rfl, rfl⟩⟩
theorem sA3_ts : sA3.ts = 2 := by decide +kernel
theorem sA3_te : sA3.te = 3 := by decide +kernel
theorem rowsA_ev (ok : Nat → Prop) (w : World) (i : Nat) (r : Array Value) (e : Ev) (hr : rowsA[i]? = some r) (he : evA[i]? = some e) : IsEv (IsP ok w 1) r e := by
  match i, hr, he with
  | 0, hr, he => cases hr; cases he; exact eN_is ok _ _ _ w
  | 1, hr, he => cases hr; cases he; exact eN_is ok _ _ _ w
  | 2, hr, he => cases hr; cases he; exact eN_is ok _ _ _ w
  | _ + 3, hr, _ => simp [rowsA] at hr
theorem isL_A (w : World) : IsL (w.alloc (.cells cellsA 45)).heap.size (w.alloc (.cells cellsA 45)) 1 (some ⟨w.heap.size, 0, none⟩) evA := by
  have hk : ∀ (i : Nat) r, rowsA[i]? = some r → r.size = 13 := fun i r hr => by
    have hi : i < 3 := (List.getElem?_eq_some_iff.1 hr).1
    exact (rowsA_ev (fun _ => True) w i r _ hr (List.getElem?_eq_getElem hi)).size
  refine ⟨rowsA, rfl, fun i r hr => ?_, fun i r e hr he => rowsA_ev _ _ i r e hr he⟩
  have hi : i < 3 := (List.getElem?_eq_some_iff.1 hr).1
  refine ⟨hk i r hr, (rowsA_ev (fun _ => True) w i r _ hr (List.getElem?_eq_getElem hi)).one, w.heap.size, 0, rfl, by simp, fun j v hj => ?_⟩
  rw [Nat.zero_add]
  refine row_cell (heap_alloc_last w _) ?_
  have := flatS_put hk hr hj
  rw [cellsA, List.getElem?_toArray]
  exact this
theorem smL_A : SmL 1 evA := fun i e he => by
  match i, he with
  | 0, he => cases he; exact ⟨smallZ 0, by decide⟩
  | 1, he => cases he; exact ⟨smallZ 0, by decide⟩
  | 2, he => cases he; exact ⟨smallZ 0, by decide⟩
  | _ + 3, he => simp [evA] at he
set_option maxHeartbeats 2000000 in
set_option maxRecDepth 100000 in
theorem awake_calls (w : World) : Calls Try.prog 5 #[] w fun e w' => e = .returned (.bool true) ∧ Below w.heap.size w w' := by
  have KB : Hid (Calls Try.prog 6 #[.int .i64 1, .slice (some ⟨w.heap.size, 0, none⟩) 3 3] (w.alloc (.cells cellsA 45)) (BuP 0 1 evA (w.alloc (.cells cellsA 45)))) := build_calls 0 1 (some ⟨w.heap.size, 0, none⟩) 3 evA (w.alloc (.cells cellsA 45)) (isL_A w) smL_A (by decide)
  have HB0 : Hid (Below w.heap.size w (w.alloc (.cells cellsA 45))) := bel1 _ _
  have HQ : Hid (∀ w', Below w.heap.size w w' → (fun e w' => e = Ending.returned (.bool true) ∧ Below w.heap.size w w') (.returned (.bool true)) w') := fun w' h => ⟨rfl, h⟩
  generalize (fun e w' => e = Ending.returned (.bool true) ∧ Below w.heap.size w w') = Q at HQ ⊢
  go_enter Try.func5, Try.ntmps5
  go_wp2_with fail
  refine KB.out.mono ?_
  rintro e w1 ⟨⟨c1, s1, k, code, rfl, hrs, _, hfo⟩, hb⟩
  have hdet : s1 = sA3 ∧ k = 3 ∧ code = 0 := by
    rcases hfo with ⟨_, _, hfo⟩ | ⟨h, _⟩
    · exact hfo.det foA
    · exact absurd (by decide) h
  obtain ⟨rfl, rfl, rfl⟩ := hdet
  have c16 := hrs.c16
  have c19 := hrs.c19
  rw [sA3_ts] at c16
  rw [sA3_te] at c19
  have hi1 := info33s c1 hrs.size
  have z1 : zS.size = c1.size := hrs.size.symm
  have a1 := all_one hrs.one
  have n1 : (w1.alloc (.cells zS 37)).heap[w1.heap.size]? = some (.cells zS 37 (0, 0)) := heap_alloc_new w1 _
  have HB1 : Hid (Below w.heap.size w w1) := bel2 HB0.out hb
  clear hfo hrs hb KB HB0
  go_upto_region 2 with (refine wpList_store_row rfl 37 _ _ rfl w1.heap.size c1 rfl rfl 37 zS n1 hi1 z1 a1 ?_)
  rw [World.setRow_alloc_new]
  have HB2 : Hid (Below w.heap.size w (w1.alloc (.cells c1 37))) := bel2 HB1.out (bel1 _ _)
  have y16 : (w1.alloc (.cells c1 37)).cell? ⟨w1.heap.size, 16, none⟩ = some (.int .i64 2) := row_cell (heap_alloc_last w1 _) c16
  have y19 : (w1.alloc (.cells c1 37)).cell? ⟨w1.heap.size, 19, none⟩ = some (.int .i64 3) := row_cell (heap_alloc_last w1 _) c19
  generalize w1.alloc (.cells c1 37) = W2 at HB2 y16 y19 ⊢
  go_wp2_with fail
  exact HQ.out _ HB2.out
end Go.Proofs.Ytghclnpklindgaa
namespace Go.Proofs.Ytghclnpklindgaa
open Go.ChangeShapes Go.WideShapes Go.ChangeAt Go.RowKit
theorem tm_base {ok : Nat → Prop} {w : World} {a : Option Addr} {l : List Tm} (h : RowS ok w a 2 (l.map Tm.cells)) {j : Nat} {tt : Tm} (hj : l[j]? = some tt) : ∃ B o, a = some ⟨B, o, none⟩ ∧ w.rangeAt B (o + j * 2) [.string tt.s, .int .i64 tt.d] := by
  obtain ⟨_, _, B, o, ha, _, hl⟩ := h j tt.cells (by rw [List.getElem?_map, hj]; rfl)
  exact ⟨B, o, ha, lies_range hl⟩
theorem hi38 (a b : Value) : (Try.prog.info? 50).map (·.size) = some [a, b].length := by kernel_rfl
set_option maxHeartbeats 4000000 in
set_option maxRecDepth 100000 in
theorem ssame_calls (n : Nat) (cs ds : Array Value) (s : Sta) (w : World) (h : Rs w n cs s) (k : Rs w n ds s) (ht : s.tm.length ≤ 1000) (hu : s.up.length ≤ 1000) :
    Calls Try.prog 7 #[.agg cs, .agg ds] w fun e w' => e = .returned (.bool true) ∧ Below w.heap.size w w' := by
  obtain ⟨k1, x1, b1, s1, a1, m1, c1, i1, i2, i3, i4, i5, iv⟩ := h.inp
  obtain ⟨k2, x2, b2, s2, a2, m2, c2, j1, j2, j3, j4, j5, jv⟩ := h.res
  obtain ⟨k3, x3, b3, s3, a3, m3, c3, p1, p2, p3, p4, p5, pv⟩ := k.inp
  obtain ⟨k4, x4, b4, s4, a4, m4, c4, q1, q2, q3, q4, q5, qv⟩ := k.res
  obtain ⟨ta, tc, t1, t2⟩ := h.tm
  obtain ⟨ta2, tc2, t3, t4⟩ := k.tm
  obtain ⟨ua, uc, us, u1, u2, u3, u4⟩ := h.up
  obtain ⟨ua2, uc2, us2, u5, u6, u7, u8⟩ := k.up
  have KI : Hid (∀ W, Below w.heap.size w W → _) := fun W hB => rsame_calls n _ _ _ _ W (iv.below hB) (pv.below hB)
  have KR : Hid (∀ W, Below w.heap.size w W → _) := fun W hB => rsame_calls n _ _ _ _ W (jv.below hB) (qv.below hB)
  have HT2 : Hid (RowS (fun _ => True) w ta 2 (s.tm.map Tm.cells)) := t2
  have HT4 : Hid (RowS (fun _ => True) w ta2 2 (s.tm.map Tm.cells)) := t4
  have HU2 : Hid (us.length = s.up.length ∧ us2.length = s.up.length) := ⟨u2, u6⟩
  have HU3 : Hid (RowS (fun _ => True) w ua 12 us) := u3
  have HU7 : Hid (RowS (fun _ => True) w ua2 12 us2) := u7
  have HU4 : Hid (∀ (i : Nat) r u, us[i]? = some r → s.up[i]? = some u → IsU (Is w n) r u) := u4
  have HU8 : Hid (∀ (i : Nat) r u, us2[i]? = some r → s.up[i]? = some u → IsU (Is w n) r u) := u8
  have HT : Hid (s.tm.length ≤ 1000) := ht
  have HU : Hid (s.up.length ≤ 1000) := hu
  have e0 := h.c0
  have e1 := h.c1
  have e2 := h.c2
  have e3 := h.c3
  have e4 := h.c4
  have e5 := h.c5
  have e6 := h.c6
  have e7 := h.c7
  have e13 := h.c13
  have e14 := h.c14
  have e15 := h.c15
  have e16 := h.c16
  have e17 := h.c17
  have e18 := h.c18
  have e19 := h.c19
  have e20 := h.c20
  have e21 := h.c21
  have e22 := h.c22
  have e30 := h.c30
  have f0 := k.c0
  have f1 := k.c1
  have f2 := k.c2
  have f3 := k.c3
  have f4 := k.c4
  have f5 := k.c5
  have f6 := k.c6
  have f7 := k.c7
  have f13 := k.c13
  have f14 := k.c14
  have f15 := k.c15
  have f16 := k.c16
  have f17 := k.c17
  have f18 := k.c18
  have f19 := k.c19
  have f20 := k.c20
  have f21 := k.c21
  have f22 := k.c22
  have f30 := k.c30
  clear iv jv pv qv t2 t4 u2 u6 u3 u7 u4 u8 ht hu h k
  go_enter Try.func7, Try.ntmps7
  go_wp2_with fail
  refine (KI.out _ (bel2 (bel1 _ _) (bel1 _ _))).mono ?_
  rintro e w1 ⟨⟨r1, rfl, hr1⟩, hb1⟩
  obtain rfl := hr1.2 trivial
  have G1 : Hid (w1.heap[w.heap.size]? = some (.cells cs 37 (0, 0))) := row_below hb1 (heap_alloc2_old _ _ _)
  have D1 : Hid (w1.heap[w.heap.size + 1]? = some (.cells ds 37 (0, 0))) := row_below hb1 (heap_alloc2_new _ _ _)
  have B1 : Hid (Below w.heap.size w w1) := bel2 (bel2 (bel1 _ _) (bel1 _ _)) hb1
  have g1 : ∀ j, w1.cell? ⟨w.heap.size, j, none⟩ = cs[j]? := fun j => cell_of_row w1 _ j cs 37 (0, 0) G1.out
  have d1 : ∀ j, w1.cell? ⟨w.heap.size + 1, j, none⟩ = ds[j]? := fun j => cell_of_row w1 _ j ds 37 (0, 0) D1.out
  clear hr1 hb1 KI e0 f0 e1 f1 e2 f2 e3 f3 e4 f4 e5 f5 e6 f6 e7 f7 e13 f13 e14 f14 e15 f15 e16 f16 e17 f17 e18 f18 e19 f19 e20 f20 e21 f21 e22 f22 e30 f30 i1 i2 i3 i4 i5 p1 p2 p3 p4 p5
  go_wp2_with fail
  refine (KR.out _ B1.out).mono ?_
  rintro e w2 ⟨⟨r2, rfl, hr2⟩, hb2⟩
  obtain rfl := hr2.2 trivial
  have G2 : Hid (w2.heap[w.heap.size]? = some (.cells cs 37 (0, 0))) := row_below hb2 G1.out
  have D2 : Hid (w2.heap[w.heap.size + 1]? = some (.cells ds 37 (0, 0))) := row_below hb2 D1.out
  have B2 : Hid (Below w.heap.size w w2) := bel2 B1.out hb2
  have g2 : ∀ j, w2.cell? ⟨w.heap.size, j, none⟩ = cs[j]? := fun j => cell_of_row w2 _ j cs 37 (0, 0) G2.out
  have d2 : ∀ j, w2.cell? ⟨w.heap.size + 1, j, none⟩ = ds[j]? := fun j => cell_of_row w2 _ j ds 37 (0, 0) D2.out
  clear hr2 hb2 KR g1 d1 j1 j2 j3 j4 j5 q1 q2 q3 q4 q5 G1 D1 B1
  go_wp2_with fail
  have B0 : Hid (w.heap.size + 2 ≤ w2.heap.size) := by
    have hh := (Array.getElem?_eq_some_iff.1 D2.out).1
    show _ ≤ _
    omega
  clear g2 d2
  go_loopw [5] (fun i wr => ∃ j : Nat, j ≤ s.tm.length ∧ i = .int .i64 j ∧ Hid (Below w2.heap.size w2 wr)) (fun i _ => s.tm.length - (intOf i).toNat)
  case atStart => exact ⟨0, Nat.zero_le _, rfl, Below.refl _ _⟩
  case round =>
    obtain ⟨j, hj, rfl, HB⟩ := hrel
    have g3 : ∀ j, wr.cell? ⟨w.heap.size, j, none⟩ = cs[j]? := fun j => cell_of_row wr _ j cs 37 (0, 0) (row_below HB.out G2.out)
    have d3 : ∀ j, wr.cell? ⟨w.heap.size + 1, j, none⟩ = ds[j]? := fun j => cell_of_row wr _ j ds 37 (0, 0) (row_below HB.out D2.out)
    by_cases hlt : j < s.tm.length
    · obtain ⟨tt, htt⟩ : ∃ tt, s.tm[j]? = some tt := ⟨_, List.getElem?_eq_getElem hlt⟩
      obtain ⟨TB, tp, hta, l1⟩ := tm_base HT2.out htt
      obtain ⟨TB2, tp2, hta2, l2⟩ := tm_base HT4.out htt
      have hbw := bel2 B2.out HB.out
      have l1 : wr.rangeAt TB (tp + j * 2) [.string tt.s, .int .i64 tt.d] := fun i v hv => cellW (l1 i v hv) hbw
      have l2 : wr.rangeAt TB2 (tp2 + j * 2) [.string tt.s, .int .i64 tt.d] := fun i v hv => cellW (l2 i v hv) hbw
      have z23 := (g3 23).trans t1
      have y23 := (d3 23).trans t3
      rw [hta] at z23
      rw [hta2] at y23
      have hi38 := hi38 (.string tt.s) (.int .i64 tt.d)
      have hjl : (j : Int) < (s.tm.length : Int) := by omega
      have HW1 : Hid (wrap64 ((j : Int) + 1) = ((j + 1 : Nat) : Int)) := wr1 hlt (by have := HT.out; omega)
      clear htt hta hta2 hbw
      go_wp2_with fail
      refine wp_region_held_drew (S := (fun w' => w'.cell? ⟨w.heap.size, 23, none⟩ = some (.slice (some ⟨TB, tp, none⟩) s.tm.length tc) ∧ w'.cell? ⟨w.heap.size + 1, 23, none⟩ = some (.slice (some ⟨TB2, tp2, none⟩) s.tm.length tc2) ∧ w'.rangeAt TB (tp + j * 2) [.string tt.s, .int .i64 tt.d] ∧ w'.rangeAt TB2 (tp2 + j * 2) [.string tt.s, .int .i64 tt.d])) (by kernel_rfl) ⟨z23, y23, l1, l2⟩ (fun hHeld => ?_)
      change wpAnyH _ _ _ _ _ _ _ _ (World.drew _)
      refine wpAnyH_take (i := 0) (oi := { dst := some 137, op := Go.Op.fieldAddr 37 (Go.Operand.tmp 2) 13, type := 0, pos := "ref.go:98", after := #[], guard := none }) (v := ?_) rfl (by kernel_rfl) (by kernel_rfl) (by kernel_rfl) (fun _ _ _ h => h) (Or.inl ⟨by rfl, ?_⟩) hHeld ?_
      rotate_left 1
      · (intro w hSw; (try dsimp only at hSw); go_simp <;> with_reducible rfl)
      simp only [Act.put, List.setIfInBounds_toArray, List.set_cons_zero, List.set_cons_succ]
      refine wpAnyH_take (i := 1) (oi := { dst := some 138, op := Go.Op.load 34 (Go.Operand.tmp 137), type := 34, pos := "ref.go:98", after := #[{ on := 0, ground := Go.Ground.data }], guard := none }) (v := ?_) rfl (by kernel_rfl) (by kernel_rfl) (by kernel_rfl) (fun _ _ _ h => h) (Or.inl ⟨by rfl, ?_⟩) hHeld ?_
      rotate_left 1
      · (intro w hSw; (try dsimp only at hSw); go_simp <;> with_reducible rfl)
      simp only [Act.put, List.setIfInBounds_toArray, List.set_cons_zero, List.set_cons_succ]
      refine wpAnyH_take (i := 2) (oi := { dst := some 139, op := Go.Op.move (Go.Operand.tmp 5), type := 3, pos := "ref.go:98", after := #[], guard := none }) (v := ?_) rfl (by kernel_rfl) (by kernel_rfl) (by kernel_rfl) (fun _ _ _ h => h) (Or.inl ⟨by rfl, ?_⟩) hHeld ?_
      rotate_left 1
      · (intro w hSw; (try dsimp only at hSw); go_simp <;> with_reducible rfl)
      simp only [Act.put, List.setIfInBounds_toArray, List.set_cons_zero, List.set_cons_succ]
      refine wpAnyH_take (i := 3) (oi := { dst := some 140, op := Go.Op.indexAddr 34 (Go.Operand.tmp 138) (Go.Operand.tmp 139), type := 0, pos := "ref.go:98", after := #[{ on := 1, ground := Go.Ground.data }, { on := 2, ground := Go.Ground.data }], guard := none }) (v := ?_) rfl (by kernel_rfl) (by kernel_rfl) (by kernel_rfl) (fun _ _ _ h => h) (Or.inl ⟨by rfl, ?_⟩) hHeld ?_
      rotate_left 1
      · (intro w hSw; (try dsimp only at hSw); go_simp <;> with_reducible rfl)
      simp only [Act.put, List.setIfInBounds_toArray, List.set_cons_zero, List.set_cons_succ]
      refine wpAnyH_take (i := 4) (oi := { dst := some 141, op := Go.Op.load 50 (Go.Operand.tmp 140), type := 50, pos := "ref.go:98", after := #[{ on := 3, ground := Go.Ground.data }], guard := none }) (v := _) rfl (by kernel_rfl) (by kernel_rfl) (by kernel_rfl) (fun _ _ _ h => h) (yieldsIf_load_mid rfl 50 _ rfl TB (tp + j * 2) rfl [.string tt.s, .int .i64 tt.d] _ (fun w h => h.2.2.1) Try.underlying50 rfl hi38) hHeld ?_
      simp only [Act.put, List.setIfInBounds_toArray, List.set_cons_zero, List.set_cons_succ]
      refine wpAnyH_take (i := 5) (oi := { dst := some 142, op := Go.Op.fieldAddr 37 (Go.Operand.tmp 3) 13, type := 0, pos := "ref.go:98", after := #[], guard := none }) (v := ?_) rfl (by kernel_rfl) (by kernel_rfl) (by kernel_rfl) (fun _ _ _ h => h) (Or.inl ⟨by rfl, ?_⟩) hHeld ?_
      rotate_left 1
      · (intro w hSw; (try dsimp only at hSw); go_simp <;> with_reducible rfl)
      simp only [Act.put, List.setIfInBounds_toArray, List.set_cons_zero, List.set_cons_succ]
      refine wpAnyH_take (i := 6) (oi := { dst := some 143, op := Go.Op.load 34 (Go.Operand.tmp 142), type := 34, pos := "ref.go:98", after := #[{ on := 5, ground := Go.Ground.data }], guard := none }) (v := ?_) rfl (by kernel_rfl) (by kernel_rfl) (by kernel_rfl) (fun _ _ _ h => h) (Or.inl ⟨by rfl, ?_⟩) hHeld ?_
      rotate_left 1
      · (intro w hSw; (try dsimp only at hSw); go_simp <;> with_reducible rfl)
      simp only [Act.put, List.setIfInBounds_toArray, List.set_cons_zero, List.set_cons_succ]
      refine wpAnyH_take (i := 7) (oi := { dst := some 144, op := Go.Op.move (Go.Operand.tmp 5), type := 3, pos := "ref.go:98", after := #[], guard := none }) (v := ?_) rfl (by kernel_rfl) (by kernel_rfl) (by kernel_rfl) (fun _ _ _ h => h) (Or.inl ⟨by rfl, ?_⟩) hHeld ?_
      rotate_left 1
      · (intro w hSw; (try dsimp only at hSw); go_simp <;> with_reducible rfl)
      simp only [Act.put, List.setIfInBounds_toArray, List.set_cons_zero, List.set_cons_succ]
      refine wpAnyH_take (i := 8) (oi := { dst := some 145, op := Go.Op.indexAddr 34 (Go.Operand.tmp 143) (Go.Operand.tmp 144), type := 0, pos := "ref.go:98", after := #[{ on := 6, ground := Go.Ground.data }, { on := 7, ground := Go.Ground.data }], guard := none }) (v := ?_) rfl (by kernel_rfl) (by kernel_rfl) (by kernel_rfl) (fun _ _ _ h => h) (Or.inl ⟨by rfl, ?_⟩) hHeld ?_
      rotate_left 1
      · (intro w hSw; (try dsimp only at hSw); go_simp <;> with_reducible rfl)
      simp only [Act.put, List.setIfInBounds_toArray, List.set_cons_zero, List.set_cons_succ]
      refine wpAnyH_take (i := 9) (oi := { dst := some 146, op := Go.Op.load 50 (Go.Operand.tmp 145), type := 50, pos := "ref.go:98", after := #[{ on := 8, ground := Go.Ground.data }], guard := none }) (v := _) rfl (by kernel_rfl) (by kernel_rfl) (by kernel_rfl) (fun _ _ _ h => h) (yieldsIf_load_mid rfl 50 _ rfl TB2 (tp2 + j * 2) rfl [.string tt.s, .int .i64 tt.d] _ (fun w h => h.2.2.2) Try.underlying50 rfl hi38) hHeld ?_
      simp only [Act.put, List.setIfInBounds_toArray, List.set_cons_zero, List.set_cons_succ]
      refine wpAnyH_take (i := 10) (oi := { dst := some 147, op := Go.Op.binOp Go.BinOp.neq 50 (Go.Operand.tmp 141) (Go.Operand.tmp 146) 50, type := 4, pos := "ref.go:98", after := #[{ on := 4, ground := Go.Ground.data }, { on := 9, ground := Go.Ground.data }], guard := none }) (v := ?_) rfl (by kernel_rfl) (by kernel_rfl) (by kernel_rfl) (fun _ _ _ h => h) (Or.inl ⟨by rfl, ?_⟩) hHeld ?_
      rotate_left 1
      · (intro w hSw; (try dsimp only at hSw); go_simp <;> with_reducible rfl)
      simp only [Act.put, List.setIfInBounds_toArray, List.set_cons_zero, List.set_cons_succ]
      refine wpAnyH_done (by kernel_rfl) ?_ _
      go_wp2_with fail
      exact ⟨⟨j + 1, hlt, by rw [HW1.out], (HB.out.drew)⟩, meas hlt HW1.out⟩
    · obtain rfl : j = s.tm.length := by omega
      have B3 : Hid (Below w.heap.size w wr) := bel2 B2.out HB.out
      have G3 : Hid (wr.heap[w.heap.size]? = some (.cells cs 37 (0, 0))) := row_below HB.out G2.out
      have D3 : Hid (wr.heap[w.heap.size + 1]? = some (.cells ds 37 (0, 0))) := row_below HB.out D2.out
      go_wp2_with fail
      clear g3 d3 HB G2 D2 B2
      generalize wr = w3 at B3 G3 D3 ⊢
      go_loopw [6] (fun i wr => ∃ j : Nat, j ≤ s.up.length ∧ i = .int .i64 j ∧ Hid (Below w3.heap.size w3 wr)) (fun i _ => s.up.length - (intOf i).toNat)
      case atStart => exact ⟨0, Nat.zero_le _, rfl, Below.refl _ _⟩
      case round =>
        obtain ⟨j, hj, rfl, HB⟩ := hrel
        have g3 : ∀ j, wr.cell? ⟨w.heap.size, j, none⟩ = cs[j]? := fun j => cell_of_row wr _ j cs 37 (0, 0) (row_below HB.out G3.out)
        have d3 : ∀ j, wr.cell? ⟨w.heap.size + 1, j, none⟩ = ds[j]? := fun j => cell_of_row wr _ j ds 37 (0, 0) (row_below HB.out D3.out)
        by_cases hlt : j < s.up.length
        · obtain ⟨u, hu⟩ : ∃ u, s.up[j]? = some u := ⟨_, List.getElem?_eq_getElem hlt⟩
          obtain ⟨r, hr⟩ : ∃ r, us[j]? = some r := ⟨_, List.getElem?_eq_getElem (by rw [HU2.out.1]; exact hlt)⟩
          obtain ⟨q, hq⟩ : ∃ q, us2[j]? = some q := ⟨_, List.getElem?_eq_getElem (by rw [HU2.out.2]; exact hlt)⟩
          have hbw := bel2 B3.out HB.out
          obtain ⟨sr, or_, TB, tp, hta, _, l1⟩ := HU3.out j r hr
          obtain ⟨sq, oq, TB2, tp2, hta2, _, l2⟩ := HU7.out j q hq
          have l1 : wr.rangeAt TB (tp + j * 12) r.toList := lies_range (l1.below hbw)
          have l2 : wr.rangeAt TB2 (tp2 + j * 12) q.toList := lies_range (l2.below hbw)
          have ir := HU4.out j r u hr hu
          have iq := HU8.out j q u hq hu
          obtain ⟨k1, x1, b1, s1, a1, m1, c1, i1, i2, i3, i4, i5, iv⟩ := ir.v
          obtain ⟨k2, x2, b2, s2, a2, m2, c2, j1, j2, j3, j4, j5, jv⟩ := ir.o
          obtain ⟨k3, x3, b3, s3, a3, m3, c3, p1, p2, p3, p4, p5, pv⟩ := iq.v
          obtain ⟨k4, x4, b4, s4, a4, m4, c4, q1, q2, q3, q4, q5, qv⟩ := iq.o
          have KV : Hid (∀ W, Below w.heap.size w W → _) := fun W hB => rsame_calls n _ _ _ _ W (iv.below hB) (pv.below hB)
          have KO : Hid (∀ W, Below w.heap.size w W → _) := fun W hB => rsame_calls n _ _ _ _ W (jv.below hB) (qv.below hB)
          have r0 := ir.c0
          have r6 := ir.c6
          have q0 := iq.c0
          have q6 := iq.c6
          have z24 := (g3 24).trans u1
          have y24 := (d3 24).trans u5
          rw [hta] at z24
          rw [hta2] at y24
          have hir : (Try.prog.info? 52).map (·.size) = some r.toList.length := by rw [Array.length_toList]; exact info40s r sr
          have hiq : (Try.prog.info? 52).map (·.size) = some q.toList.length := by rw [Array.length_toList]; exact info40s q sq
          have hir' := info40s r sr
          have hiq' := info40s q sq
          have har := all_one or_
          have haq := all_one oq
          have hjl : (j : Int) < (s.up.length : Int) := by omega
          have HW1 : Hid (wrap64 ((j : Int) + 1) = ((j + 1 : Nat) : Int)) := wr1 hlt (by have := HU.out; omega)
          have HBw : Hid (Below w.heap.size w wr) := hbw
          have hz1 : zU.size = r.size := sr.symm
          have hz2 : zU.size = q.size := sq.symm
          clear hu hr hq hta hta2 hbw ir iq iv jv pv qv or_ oq
          go_upto_region 13 with fail
          go_cut [7, 8] (fun s7 s8 wc => ∃ g7 g8, s7 = .pointer (some ⟨g7, 0, none⟩) ∧ s8 = .pointer (some ⟨g8, 0, none⟩) ∧ Hid (wc.heap[g7]? = some (.cells r 52 (0, 0)) ∧ wc.heap[g8]? = some (.cells q 52 (0, 0)) ∧ Below wr.heap.size wr wc))
          case first =>
            have hk13 : ∀ {W : World}, Below wr.heap.size wr W → (fun w' => w'.cell? ⟨w.heap.size, 24, none⟩ = some (.slice (some ⟨TB, tp, none⟩) s.up.length uc) ∧ w'.cell? ⟨w.heap.size + 1, 24, none⟩ = some (.slice (some ⟨TB2, tp2, none⟩) s.up.length uc2) ∧ w'.rangeAt TB (tp + j * 12) r.toList ∧ w'.rangeAt TB2 (tp2 + j * 12) q.toList) W := fun hb => ⟨cellW z24 hb, cellW y24 hb, fun i v hv => cellW (l1 i v hv) hb, fun i v hv => cellW (l2 i v hv) hb⟩
            refine wp_region_held_drew (S := (fun w' => w'.cell? ⟨w.heap.size, 24, none⟩ = some (.slice (some ⟨TB, tp, none⟩) s.up.length uc) ∧ w'.cell? ⟨w.heap.size + 1, 24, none⟩ = some (.slice (some ⟨TB2, tp2, none⟩) s.up.length uc2) ∧ w'.rangeAt TB (tp + j * 12) r.toList ∧ w'.rangeAt TB2 (tp2 + j * 12) q.toList)) (by kernel_rfl) ⟨z24, y24, l1, l2⟩ (fun hHeld => ?_)
            change wpAnyH _ _ _ _ _ _ _ _ (World.drew _)
            refine wpAnyH_take (i := 0) (oi := { dst := some 155, op := Go.Op.fieldAddr 37 (Go.Operand.tmp 2) 14, type := 0, pos := "ref.go:103", after := #[], guard := none }) (v := ?_) rfl (by kernel_rfl) (by kernel_rfl) (by kernel_rfl) (fun _ _ _ h => h) (Or.inl ⟨by rfl, ?_⟩) hHeld ?_
            rotate_left 1
            · (intro w hSw; (try dsimp only at hSw); go_simp <;> with_reducible rfl)
            simp only [Act.put, List.setIfInBounds_toArray, List.set_cons_zero, List.set_cons_succ]
            refine wpAnyH_take (i := 1) (oi := { dst := some 156, op := Go.Op.load 35 (Go.Operand.tmp 155), type := 35, pos := "ref.go:103", after := #[{ on := 0, ground := Go.Ground.data }], guard := none }) (v := ?_) rfl (by kernel_rfl) (by kernel_rfl) (by kernel_rfl) (fun _ _ _ h => h) (Or.inl ⟨by rfl, ?_⟩) hHeld ?_
            rotate_left 1
            · (intro w hSw; (try dsimp only at hSw); go_simp <;> with_reducible rfl)
            simp only [Act.put, List.setIfInBounds_toArray, List.set_cons_zero, List.set_cons_succ]
            refine wpAnyH_take (i := 2) (oi := { dst := some 157, op := Go.Op.move (Go.Operand.tmp 6), type := 3, pos := "ref.go:103", after := #[], guard := none }) (v := ?_) rfl (by kernel_rfl) (by kernel_rfl) (by kernel_rfl) (fun _ _ _ h => h) (Or.inl ⟨by rfl, ?_⟩) hHeld ?_
            rotate_left 1
            · (intro w hSw; (try dsimp only at hSw); go_simp <;> with_reducible rfl)
            simp only [Act.put, List.setIfInBounds_toArray, List.set_cons_zero, List.set_cons_succ]
            refine wpAnyH_take (i := 3) (oi := { dst := some 158, op := Go.Op.indexAddr 35 (Go.Operand.tmp 156) (Go.Operand.tmp 157), type := 0, pos := "ref.go:103", after := #[{ on := 1, ground := Go.Ground.data }, { on := 2, ground := Go.Ground.data }], guard := none }) (v := ?_) rfl (by kernel_rfl) (by kernel_rfl) (by kernel_rfl) (fun _ _ _ h => h) (Or.inl ⟨by rfl, ?_⟩) hHeld ?_
            rotate_left 1
            · (intro w hSw; (try dsimp only at hSw); go_simp <;> with_reducible rfl)
            simp only [Act.put, List.setIfInBounds_toArray, List.set_cons_zero, List.set_cons_succ]
            refine wpAnyH_take (i := 4) (oi := { dst := some 159, op := Go.Op.load 52 (Go.Operand.tmp 158), type := 52, pos := "ref.go:103", after := #[{ on := 3, ground := Go.Ground.data }], guard := none }) (v := _) rfl (by kernel_rfl) (by kernel_rfl) (by kernel_rfl) (fun _ _ _ h => h) (yieldsIf_load_mid rfl 52 _ rfl TB (tp + j * 12) rfl r.toList _ (fun w h => h.2.2.1) Try.underlying52 rfl hir) hHeld ?_
            simp only [Act.put, List.setIfInBounds_toArray, List.set_cons_zero, List.set_cons_succ]
            refine wpAnyH_take (i := 5) (oi := { dst := some 160, op := Go.Op.fieldAddr 37 (Go.Operand.tmp 3) 14, type := 0, pos := "ref.go:103", after := #[{ on := 12, ground := Go.Ground.gcOnly Go.Departure.lateStores }], guard := none }) (v := ?_) rfl (by kernel_rfl) (by kernel_rfl) (by kernel_rfl) (fun _ _ _ h => h) (Or.inl ⟨by rfl, ?_⟩) hHeld ?_
            rotate_left 1
            · (intro w hSw; (try dsimp only at hSw); go_simp <;> with_reducible rfl)
            simp only [Act.put, List.setIfInBounds_toArray, List.set_cons_zero, List.set_cons_succ]
            refine wpAnyH_take (i := 6) (oi := { dst := some 161, op := Go.Op.load 35 (Go.Operand.tmp 160), type := 35, pos := "ref.go:103", after := #[{ on := 5, ground := Go.Ground.data }, { on := 12, ground := Go.Ground.gcOnly Go.Departure.lateStores }], guard := none }) (v := ?_) rfl (by kernel_rfl) (by kernel_rfl) (by kernel_rfl) (fun _ _ _ h => h) (Or.inl ⟨by rfl, ?_⟩) hHeld ?_
            rotate_left 1
            · (intro w hSw; (try dsimp only at hSw); go_simp <;> with_reducible rfl)
            simp only [Act.put, List.setIfInBounds_toArray, List.set_cons_zero, List.set_cons_succ]
            refine wpAnyH_take (i := 7) (oi := { dst := some 162, op := Go.Op.move (Go.Operand.tmp 6), type := 3, pos := "ref.go:103", after := #[{ on := 12, ground := Go.Ground.gcOnly Go.Departure.lateStores }], guard := none }) (v := ?_) rfl (by kernel_rfl) (by kernel_rfl) (by kernel_rfl) (fun _ _ _ h => h) (Or.inl ⟨by rfl, ?_⟩) hHeld ?_
            rotate_left 1
            · (intro w hSw; (try dsimp only at hSw); go_simp <;> with_reducible rfl)
            simp only [Act.put, List.setIfInBounds_toArray, List.set_cons_zero, List.set_cons_succ]
            refine wpAnyH_take (i := 8) (oi := { dst := some 163, op := Go.Op.indexAddr 35 (Go.Operand.tmp 161) (Go.Operand.tmp 162), type := 0, pos := "ref.go:103", after := #[{ on := 6, ground := Go.Ground.data }, { on := 7, ground := Go.Ground.data }, { on := 12, ground := Go.Ground.gcOnly Go.Departure.lateStores }], guard := none }) (v := ?_) rfl (by kernel_rfl) (by kernel_rfl) (by kernel_rfl) (fun _ _ _ h => h) (Or.inl ⟨by rfl, ?_⟩) hHeld ?_
            rotate_left 1
            · (intro w hSw; (try dsimp only at hSw); go_simp <;> with_reducible rfl)
            simp only [Act.put, List.setIfInBounds_toArray, List.set_cons_zero, List.set_cons_succ]
            refine wpAnyH_take (i := 9) (oi := { dst := some 164, op := Go.Op.load 52 (Go.Operand.tmp 163), type := 52, pos := "ref.go:103", after := #[{ on := 8, ground := Go.Ground.data }, { on := 12, ground := Go.Ground.gcOnly Go.Departure.lateStores }], guard := none }) (v := _) rfl (by kernel_rfl) (by kernel_rfl) (by kernel_rfl) (fun _ _ _ h => h) (yieldsIf_load_mid rfl 52 _ rfl TB2 (tp2 + j * 12) rfl q.toList _ (fun w h => h.2.2.2) Try.underlying52 rfl hiq) hHeld ?_
            simp only [Act.put, List.setIfInBounds_toArray, List.set_cons_zero, List.set_cons_succ]
            refine wpAnyH_ready (rs := [10, 11]) (by kernel_rfl) (by simp) ?_
            refine AllReadyH.cons (o := { dst := some 7, op := Go.Op.alloc 52, type := 0, pos := "ref.go:103", after := #[], guard := none }) rfl (fun K hK => ?_) (AllReadyH.cons (o := { dst := some 8, op := Go.Op.alloc 52, type := 0, pos := "ref.go:103", after := #[], guard := none }) rfl (fun K hK => ?_) AllReadyH.nil)
            · go_simp
              refine hK.out _ _ (hk13 (bel1 wr _).drew) (fun hHeld => ?_)
              clear hK K
              refine wpAnyH_ready (rs := [11]) (by kernel_rfl) (by simp) ?_
              refine AllReadyH.cons (o := { dst := some 8, op := Go.Op.alloc 52, type := 0, pos := "ref.go:103", after := #[], guard := none }) rfl (fun K hK => ?_) AllReadyH.nil
              go_simp
              refine hK.out _ _ (hk13 (bel2 (bel1 wr _) (bel1 _ _)).drew) (fun hHeld => ?_)
              clear hK K
              change wpAnyH _ _ _ _ _ _ _ _ (World.drew ((wr.alloc (.cells zU 52)).alloc (.cells zU 52)))
              have n1 : ((World.drew ((wr.alloc (.cells zU 52)).alloc (.cells zU 52)))).heap[wr.heap.size]? = some (.cells zU 52 (0, 0)) := heap_alloc2_old wr _ _
              have n2 : ((World.drew ((wr.alloc (.cells zU 52)).alloc (.cells zU 52)))).heap[wr.heap.size + 1]? = some (.cells zU 52 (0, 0)) := heap_alloc2_new wr _ _
              have nb : Hid (Below wr.heap.size wr ((World.drew ((wr.alloc (.cells zU 52)).alloc (.cells zU 52))))) := (bel2 (bel1 wr _) (bel1 _ _)).drew
              generalize (World.drew ((wr.alloc (.cells zU 52)).alloc (.cells zU 52))) = Wx at n1 n2 nb hHeld ⊢
              refine wpAnyH_ready (rs := [12]) (by kernel_rfl) (by simp) ?_
              refine AllReadyH.cons (o := { dst := none, op := Go.Op.store 52 (Go.Operand.tmp 7) (Go.Operand.tmp 159), type := 0, pos := "ref.go:103", after := #[{ on := 10, ground := Go.Ground.data }, { on := 4, ground := Go.Ground.data }, { on := 0, ground := Go.Ground.phase }, { on := 1, ground := Go.Ground.phase }, { on := 2, ground := Go.Ground.phase }, { on := 3, ground := Go.Ground.phase }, { on := 4, ground := Go.Ground.phase }, { on := 5, ground := Go.Ground.textOnly Go.Departure.lateStores }, { on := 6, ground := Go.Ground.textOnly Go.Departure.lateStores }, { on := 7, ground := Go.Ground.textOnly Go.Departure.lateStores }, { on := 8, ground := Go.Ground.textOnly Go.Departure.lateStores }, { on := 9, ground := Go.Ground.textOnly Go.Departure.lateStores }, { on := 10, ground := Go.Ground.phase }, { on := 11, ground := Go.Ground.phase }], guard := none }) rfl (fun K hK => ?_) AllReadyH.nil
              rw [if_pos (by rfl)]
              refine wp_store_row 52 _ _ rfl (wr.heap.size) r rfl rfl 52 zU n1 hir' hz1 har ?_
              refine hK.out _ _ (hk13 (show Below wr.heap.size wr (Wx.setRow (wr.heap.size) r) from below_setRow nb.out (by omega) _)) (fun hHeld => ?_)
              clear hK K
              simp only [Act.put]
              refine wpAnyH_ready (rs := [13]) (by kernel_rfl) (by simp) ?_
              refine AllReadyH.cons (o := { dst := none, op := Go.Op.store 52 (Go.Operand.tmp 8) (Go.Operand.tmp 164), type := 0, pos := "ref.go:103", after := #[{ on := 11, ground := Go.Ground.data }, { on := 9, ground := Go.Ground.data }, { on := 12, ground := Go.Ground.chain }, { on := 0, ground := Go.Ground.phase }, { on := 1, ground := Go.Ground.phase }, { on := 2, ground := Go.Ground.phase }, { on := 3, ground := Go.Ground.phase }, { on := 4, ground := Go.Ground.phase }, { on := 5, ground := Go.Ground.phase }, { on := 6, ground := Go.Ground.phase }, { on := 7, ground := Go.Ground.phase }, { on := 8, ground := Go.Ground.phase }, { on := 9, ground := Go.Ground.phase }, { on := 10, ground := Go.Ground.phase }, { on := 11, ground := Go.Ground.phase }, { on := 12, ground := Go.Ground.phase }], guard := none }) rfl (fun K hK => ?_) AllReadyH.nil
              rw [if_pos (by rfl)]
              refine wp_store_row 52 _ _ rfl (wr.heap.size + 1) q rfl rfl 52 zU (show (Wx.setRow (wr.heap.size) r).heap[wr.heap.size + 1]? = _ from (setRow_other _ _ _ _ (by omega)).trans n2) hiq' hz2 haq ?_
              refine hK.out _ _ (hk13 (show Below wr.heap.size wr ((Wx.setRow (wr.heap.size) r).setRow (wr.heap.size + 1) q) from below_setRow (below_setRow nb.out (by omega) _) (by omega) _)) (fun hHeld => ?_)
              clear hK K
              simp only [Act.put]
              refine wpAnyH_done (by kernel_rfl) ?_ _
              go_wp2_with fail
              go_meet
              case rel => exact ⟨wr.heap.size, wr.heap.size + 1, rfl, rfl, ⟨(setRow_other (Wx.setRow (wr.heap.size) r) (wr.heap.size + 1) (wr.heap.size) q (by omega)).trans (setRow_heap Wx (wr.heap.size) zU r 52 (0, 0) n1), setRow_heap (Wx.setRow (wr.heap.size) r) (wr.heap.size + 1) zU q 52 (0, 0) ((setRow_other Wx (wr.heap.size) (wr.heap.size + 1) r (by omega)).trans n2), below_setRow (below_setRow nb.out (by omega) _) (by omega) _⟩⟩
            · go_simp
              refine hK.out _ _ (hk13 (bel1 wr _).drew) (fun hHeld => ?_)
              clear hK K
              refine wpAnyH_ready (rs := [10]) (by kernel_rfl) (by simp) ?_
              refine AllReadyH.cons (o := { dst := some 7, op := Go.Op.alloc 52, type := 0, pos := "ref.go:103", after := #[], guard := none }) rfl (fun K hK => ?_) AllReadyH.nil
              go_simp
              refine hK.out _ _ (hk13 (bel2 (bel1 wr _) (bel1 _ _)).drew) (fun hHeld => ?_)
              clear hK K
              change wpAnyH _ _ _ _ _ _ _ _ (World.drew ((wr.alloc (.cells zU 52)).alloc (.cells zU 52)))
              have n1 : ((World.drew ((wr.alloc (.cells zU 52)).alloc (.cells zU 52)))).heap[wr.heap.size]? = some (.cells zU 52 (0, 0)) := heap_alloc2_old wr _ _
              have n2 : ((World.drew ((wr.alloc (.cells zU 52)).alloc (.cells zU 52)))).heap[wr.heap.size + 1]? = some (.cells zU 52 (0, 0)) := heap_alloc2_new wr _ _
              have nb : Hid (Below wr.heap.size wr ((World.drew ((wr.alloc (.cells zU 52)).alloc (.cells zU 52))))) := (bel2 (bel1 wr _) (bel1 _ _)).drew
              generalize (World.drew ((wr.alloc (.cells zU 52)).alloc (.cells zU 52))) = Wx at n1 n2 nb hHeld ⊢
              refine wpAnyH_ready (rs := [12]) (by kernel_rfl) (by simp) ?_
              refine AllReadyH.cons (o := { dst := none, op := Go.Op.store 52 (Go.Operand.tmp 7) (Go.Operand.tmp 159), type := 0, pos := "ref.go:103", after := #[{ on := 10, ground := Go.Ground.data }, { on := 4, ground := Go.Ground.data }, { on := 0, ground := Go.Ground.phase }, { on := 1, ground := Go.Ground.phase }, { on := 2, ground := Go.Ground.phase }, { on := 3, ground := Go.Ground.phase }, { on := 4, ground := Go.Ground.phase }, { on := 5, ground := Go.Ground.textOnly Go.Departure.lateStores }, { on := 6, ground := Go.Ground.textOnly Go.Departure.lateStores }, { on := 7, ground := Go.Ground.textOnly Go.Departure.lateStores }, { on := 8, ground := Go.Ground.textOnly Go.Departure.lateStores }, { on := 9, ground := Go.Ground.textOnly Go.Departure.lateStores }, { on := 10, ground := Go.Ground.phase }, { on := 11, ground := Go.Ground.phase }], guard := none }) rfl (fun K hK => ?_) AllReadyH.nil
              rw [if_pos (by rfl)]
              refine wp_store_row 52 _ _ rfl (wr.heap.size + 1) r rfl rfl 52 zU n2 hir' hz1 har ?_
              refine hK.out _ _ (hk13 (show Below wr.heap.size wr (Wx.setRow (wr.heap.size + 1) r) from below_setRow nb.out (by omega) _)) (fun hHeld => ?_)
              clear hK K
              simp only [Act.put]
              refine wpAnyH_ready (rs := [13]) (by kernel_rfl) (by simp) ?_
              refine AllReadyH.cons (o := { dst := none, op := Go.Op.store 52 (Go.Operand.tmp 8) (Go.Operand.tmp 164), type := 0, pos := "ref.go:103", after := #[{ on := 11, ground := Go.Ground.data }, { on := 9, ground := Go.Ground.data }, { on := 12, ground := Go.Ground.chain }, { on := 0, ground := Go.Ground.phase }, { on := 1, ground := Go.Ground.phase }, { on := 2, ground := Go.Ground.phase }, { on := 3, ground := Go.Ground.phase }, { on := 4, ground := Go.Ground.phase }, { on := 5, ground := Go.Ground.phase }, { on := 6, ground := Go.Ground.phase }, { on := 7, ground := Go.Ground.phase }, { on := 8, ground := Go.Ground.phase }, { on := 9, ground := Go.Ground.phase }, { on := 10, ground := Go.Ground.phase }, { on := 11, ground := Go.Ground.phase }, { on := 12, ground := Go.Ground.phase }], guard := none }) rfl (fun K hK => ?_) AllReadyH.nil
              rw [if_pos (by rfl)]
              refine wp_store_row 52 _ _ rfl (wr.heap.size) q rfl rfl 52 zU (show (Wx.setRow (wr.heap.size + 1) r).heap[wr.heap.size]? = _ from (setRow_other _ _ _ _ (by omega)).trans n1) hiq' hz2 haq ?_
              refine hK.out _ _ (hk13 (show Below wr.heap.size wr ((Wx.setRow (wr.heap.size + 1) r).setRow (wr.heap.size) q) from below_setRow (below_setRow nb.out (by omega) _) (by omega) _)) (fun hHeld => ?_)
              clear hK K
              simp only [Act.put]
              refine wpAnyH_done (by kernel_rfl) ?_ _
              go_wp2_with fail
              go_meet
              case rel => exact ⟨wr.heap.size + 1, wr.heap.size, rfl, rfl, ⟨(setRow_other (Wx.setRow (wr.heap.size + 1) r) (wr.heap.size) (wr.heap.size + 1) q (by omega)).trans (setRow_heap Wx (wr.heap.size + 1) zU r 52 (0, 0) n2), setRow_heap (Wx.setRow (wr.heap.size + 1) r) (wr.heap.size) zU q 52 (0, 0) ((setRow_other Wx (wr.heap.size + 1) (wr.heap.size) r (by omega)).trans n1), below_setRow (below_setRow nb.out (by omega) _) (by omega) _⟩⟩
          case rest =>
            obtain ⟨g7, g8, rfl, rfl, HC⟩ := hcut
            have z3 : ∀ j, wc.cell? ⟨g7, j, none⟩ = r[j]? := fun j => cell_of_row wc _ j r 52 (0, 0) HC.out.1
            have y3 : ∀ j, wc.cell? ⟨g8, j, none⟩ = q[j]? := fun j => cell_of_row wc _ j q 52 (0, 0) HC.out.2.1
            clear g3 d3 z24 y24 l1 l2 hir hiq hir' hiq' har haq sr sq hz1 hz2
            go_wp2_with fail
            refine (KV.out _ (bel2 HBw.out HC.out.2.2)).mono ?_
            rintro e w5 ⟨⟨r5, rfl, hr5⟩, hb5⟩
            obtain rfl := hr5.2 trivial
            have z5 : ∀ j, w5.cell? ⟨g7, j, none⟩ = r[j]? := fun j => cell_of_row w5 _ j r 52 (0, 0) (row_below hb5 HC.out.1)
            have y5 : ∀ j, w5.cell? ⟨g8, j, none⟩ = q[j]? := fun j => cell_of_row w5 _ j q 52 (0, 0) (row_below hb5 HC.out.2.1)
            have B5 : Hid (Below wr.heap.size wr w5) := bel2 HC.out.2.2 hb5
            clear hr5 hb5 z3 y3 i1 i2 i3 i4 i5 p1 p2 p3 p4 p5 KV
            go_wp2_with fail
            refine (KO.out _ (bel2 HBw.out B5.out)).mono ?_
            rintro e w6 ⟨⟨r6, rfl, hr6⟩, hb6⟩
            obtain rfl := hr6.2 trivial
            have B6 : Hid (Below wr.heap.size wr w6) := bel2 B5.out hb6
            clear hr6 hb6 z5 y5 j1 j2 j3 j4 j5 q1 q2 q3 q4 q5 KO
            go_wp2_with fail
            exact ⟨⟨j + 1, hlt, by rw [HW1.out], bel2 HB.out B6.out⟩, meas hlt HW1.out⟩
        · obtain rfl : j = s.up.length := by omega
          go_wp2_with fail
          go_ret
          exact ⟨rfl, bel2 B3.out HB.out⟩
end Go.Proofs.Ytghclnpklindgaa
namespace Go.Proofs.Ytghclnpklindgaa
open Go.ChangeShapes Go.WideShapes Go.ChangeAt Go.RowKit
theorem elem22 : Try.prog.elem 22 = 45 := by simp [Program.elem, Try.underlying22]
theorem z45 (w : World) : (Go.sizeOf 45).run Try.prog w = .ok 13 w := by kernel_rfl
theorem IsL.nil {lo : Nat} {w : World} {n : Nat} {a : Option Addr} {l : List Ev} (h : l = []) : IsL lo w n a l := by
  subst h
  exact ⟨[], rfl, fun i r hr => by simp at hr, fun i r e hr => by simp at hr⟩
theorem IsL.spot {lo : Nat} {w : World} {n : Nat} {a : Option Addr} {l : List Ev} (h : IsL lo w n a l) : l = [] ∨ ∃ B o, a = some ⟨B, o, none⟩ := by
  obtain ⟨rows, h1, h2, _⟩ := h
  cases l with
  | nil => exact .inl rfl
  | cons e l =>
    obtain ⟨r, hr⟩ : ∃ r, rows[0]? = some r := ⟨_, List.getElem?_eq_getElem (by rw [h1]; simp)⟩
    obtain ⟨_, _, B, o, ha, _⟩ := h2 0 r hr
    exact .inr ⟨B, o, ha⟩
theorem IsL.take {lo : Nat} {w : World} {n : Nat} {a : Option Addr} {l : List Ev} (h : IsL lo w n a l) (m : Nat) : IsL lo w n a (l.take m) := by
  obtain ⟨rows, h1, h2, h3⟩ := h
  refine ⟨rows.take m, by simp [h1], fun i r hr => ?_, fun i r e hr he => ?_⟩
  · rw [List.getElem?_take] at hr
    split at hr
    · exact h2 i r hr
    · cases hr
  · rw [List.getElem?_take] at hr he
    split at hr
    · rename_i hi
      rw [if_pos hi] at he
      exact h3 i r e hr he
    · cases hr
theorem IsL.drop {lo : Nat} {w : World} {n B o : Nat} {l : List Ev} (h : IsL lo w n (some ⟨B, o, none⟩) l) (m : Nat) : IsL lo w n (some ⟨B, o + m * 13, none⟩) (l.drop m) := by
  obtain ⟨rows, h1, h2, h3⟩ := h
  refine ⟨rows.drop m, by simp [h1], fun i r hr => ?_, fun i r e hr he => ?_⟩
  · rw [List.getElem?_drop] at hr
    obtain ⟨g1, g2, B', o', ha, hb, hl⟩ := h2 (m + i) r hr
    cases ha
    refine ⟨g1, g2, B, o + m * 13, rfl, hb, fun j v hj => ?_⟩
    have := hl j v hj
    rw [show o + (m + i) * 13 + j = o + m * 13 + i * 13 + j by omega] at this
    exact this
  · rw [List.getElem?_drop] at hr he
    exact h3 (m + i) r e hr he
theorem cut_head {lo : Nat} {w : World} {n : Nat} {a : Option Addr} {l : List Ev} {c : Nat} (h : IsL lo w n a l) (hc : l.length ≤ c) (m : Nat) (hm : m ≤ l.length) : ∃ p, IsL lo w n p (l.take m) ∧ ∀ W, (Instr.slice 22 (.slice a l.length c) none (some (.int .i64 (m : Int))) none).run Try.prog W = .ok (.slice p m c) W := by
  refine ⟨if c = 0 then a else a.map (·.add (0 * 13)), ?_, fun W => ?_⟩
  · rcases h.spot with e | ⟨B, o, rfl⟩
    · exact IsL.nil (by rw [e]; simp)
    · split
      · exact h.take m
      · simp only [Option.map_some, add_plain, Nat.zero_mul, Nat.add_zero]
        exact h.take m
  · rw [run_slice_h W 22 a l.length c (by rw [elem22]; exact Try.underlying22) .i64 _ (by omega) (by omega), elem22, z45]
    simp [Result.andThen, sliced]
theorem cut_tail {lo : Nat} {w : World} {n : Nat} {a : Option Addr} {l : List Ev} {c : Nat} (h : IsL lo w n a l) (hc : l.length ≤ c) (m : Nat) (hm : m ≤ l.length) : ∃ p, IsL lo w n p (l.drop m) ∧ ∀ W, (Instr.slice 22 (.slice a l.length c) (some (.int .i64 (m : Int))) none none).run Try.prog W = .ok (.slice p (l.length - m) (c - m)) W := by
  refine ⟨if c = m then a else a.map (·.add (m * 13)), ?_, fun W => ?_⟩
  · rcases h.spot with e | ⟨B, o, rfl⟩
    · exact IsL.nil (by rw [e]; simp)
    · split
      · exact IsL.nil (List.drop_of_length_le (by omega))
      · simp only [Option.map_some, add_plain]
        exact h.drop m
  · rw [run_slice_l W 22 a l.length c (by rw [elem22]; exact Try.underlying22) .i64 _ (by omega) (by omega), elem22, z45]
    simp [Result.andThen, sliced]
theorem at_mod (y : Int) (N : Nat) : ∃ m : Nat, (IntKind.u64.wrap y).tmod ((N : Int) + 1) = (m : Int) ∧ m ≤ N := by
  have h0 : 0 ≤ IntKind.u64.wrap y := by rw [IntKind.wrap_u64]; omega
  have h1 : (IntKind.u64.wrap y).tmod ((N : Int) + 1) = (IntKind.u64.wrap y) % ((N : Int) + 1) := Int.tmod_eq_emod_of_nonneg h0
  have h2 := Int.emod_nonneg (IntKind.u64.wrap y) (show (N : Int) + 1 ≠ 0 by omega)
  have h3 := Int.emod_lt_of_pos (IntKind.u64.wrap y) (show 0 < (N : Int) + 1 by omega)
  refine ⟨((IntKind.u64.wrap y) % ((N : Int) + 1)).toNat, by rw [h1]; omega, by omega⟩
theorem wrA (N : Nat) (h : N ≤ 150) : wrap64 ((N : Int) + 1) = (N : Int) + 1 := by unfold wrap64; omega
theorem wrB (N : Nat) (h : N ≤ 150) : IntKind.u64.wrap ((N : Int) + 1) = (N : Int) + 1 := by rw [IntKind.wrap_u64]; omega
theorem wrC (m : Nat) (h : m ≤ 150) : wrap64 (m : Int) = (m : Int) := by unfold wrap64; omega
theorem wrD (a b : Nat) (h : a ≤ 150) (h' : b ≤ 150) : wrap64 ((a : Int) + (b : Int)) = ((a + b : Nat) : Int) := by unfold wrap64; omega
theorem hdet2 {n m : Nat} {r : Int} {l : List Ev} {s1 s2 s3 : Sta} {k1 k2 k3 : Nat} {code1 code3 : Int} (h2 : 1 ≤ r ∧ r ≤ 10 ∧ FoE (n + 1) (s0 r) (l.take m) s2 k2 0) (h3 : FoE (n + 1) s2 (l.drop m) s3 k3 code3) (h1 : (1 ≤ r ∧ r ≤ 10 ∧ FoE (n + 1) (s0 r) l s1 k1 code1) ∨ (¬ (1 ≤ r ∧ r ≤ 10) ∧ s1 = s0 0 ∧ k1 = 0 ∧ code1 = 1)) (hc : l.take m ++ l.drop m = l) : s3 = s1 ∧ k2 + k3 = k1 ∧ code3 = code1 := by
  have h := h2.2.2.more h3
  rw [hc] at h
  rcases h1 with ⟨_, _, h1⟩ | ⟨h0, _⟩
  · exact h.det h1
  · exact absurd ⟨h2.1, h2.2.1⟩ h0
theorem hsum2 {n m : Nat} {r : Int} {l : List Ev} {s2 s3 : Sta} {k2 k3 : Nat} {code3 : Int} (h2 : FoE (n + 1) (s0 r) (l.take m) s2 k2 0) (h3 : FoE (n + 1) s2 (l.drop m) s3 k3 code3) (hm : m ≤ l.length ∧ l.length ≤ 150) : wrap64 ((k2 : Int) + (k3 : Int)) = ((k2 + k3 : Nat) : Int) := by
  have a := h2.1
  have b := h3.1
  rw [List.length_take] at a
  rw [List.length_drop] at b
  exact wrD k2 k3 (by omega) (by omega)
set_option maxHeartbeats 2000000 in
set_option maxRecDepth 100000 in
theorem parts_many (r y : Int) (a : Option Addr) (m c : Nat) (hm : ¬ m ≤ 150) (w : World) : Calls Try.prog 3 #[.int .i64 r, .slice a m c, .int .i64 y] w fun e w' => e = .returned (.bool true) ∧ Below w.heap.size w w' := by
  have KF : Hid (∀ W, Calls Try.prog 4 #[.slice a m c] W fun e w' => e = .returned (.bool false) ∧ Below W.heap.size W w') := fun W => by
    have := few_calls a m c W
    rw [decide_eq_false hm] at this
    exact this
  have KA : Hid (∀ W, Calls Try.prog 5 #[] W fun e w' => e = .returned (.bool true) ∧ Below W.heap.size W w') := fun W => awake_calls W
  clear hm
  go_enter Try.func3, Try.ntmps3
  go_wp2_with fail
  refine (KF.out _).mono ?_
  rintro e w1 ⟨rfl, hb⟩
  have HB1 : Hid (Below w.heap.size w w1) := hb
  clear hb
  go_wp2_with fail
  refine (KA.out _).mono ?_
  rintro e w2 ⟨rfl, hb⟩
  have HB2 : Hid (Below w.heap.size w w2) := bel2 HB1.out hb
  clear hb
  go_wp2_with fail
  go_ret
  exact ⟨rfl, HB2.out⟩
set_option maxHeartbeats 4000000 in
set_option maxRecDepth 100000 in
theorem parts_walk (n : Nat) (r y : Int) (a : Option Addr) (c : Nat) (l : List Ev) (w : World) (hL : IsL w.heap.size w (n + 1) a l) (hS : SmL (n + 1) l) (hm : l.length ≤ 150) (hcap : l.length ≤ c) : Calls Try.prog 3 #[.int .i64 r, .slice a l.length c, .int .i64 y] w fun e w' => e = .returned (.bool true) ∧ Below w.heap.size w w' := by
  have KF : Hid (∀ W, Calls Try.prog 4 #[.slice a l.length c] W fun e w' => e = .returned (.bool true) ∧ Below W.heap.size W w') := fun W => by
    have := few_calls a l.length c W
    rw [decide_eq_true hm] at this
    exact this
  have KA : Hid (∀ W, Calls Try.prog 5 #[] W fun e w' => e = .returned (.bool true) ∧ Below W.heap.size W w') := fun W => awake_calls W
  have HL : Hid (IsL w.heap.size w (n + 1) a l ∧ SmL (n + 1) l ∧ l.length ≤ 150) := ⟨hL, hS, hm⟩
  obtain ⟨m, hmq, hml⟩ := at_mod y l.length
  obtain ⟨p1, hp1, s1'⟩ := cut_head HL.out.1 hcap m hml
  obtain ⟨p2, hp2, s2'⟩ := cut_tail HL.out.1 hcap m hml
  have hA := wrA l.length hm
  have hB := wrB l.length hm
  have hC := wrC m (by omega)
  have hne0 : ¬ ((l.length : Int) + 1 = 0) := by omega
  have hne1 : ((l.length : Int) + 1 == 0) = false := by simpa using hne0
  have HM : Hid (m ≤ l.length ∧ l.length ≤ 150) := ⟨hml, hm⟩
  have etk : (l.take m).length = m := by rw [List.length_take]; omega
  have edr : (l.drop m).length = l.length - m := List.length_drop
  have hcat : l.take m ++ l.drop m = l := List.take_append_drop m l
  have K1 : Hid (∀ W, Below w.heap.size w W → Calls Try.prog 6 #[.int .i64 r, .slice a l.length c] W (BuP n r l W)) := fun W hb => build_calls n r a c l W ((hL.below hb).mono hb.size) hS (by omega)
  have K2 : Hid (∀ W, Below w.heap.size w W → Calls Try.prog 6 #[.int .i64 r, .slice p1 m c] W (BuP n r (l.take m) W)) := fun W hb => by
    have := build_calls n r p1 c (l.take m) W ((hp1.below hb).mono hb.size) (fun i e he => hS i e (by rw [List.getElem?_take] at he; split at he; exact he; cases he)) (by omega)
    rw [etk] at this
    exact this
  have K3 : Hid (∀ W cs s (D : Nat → Prop), Below w.heap.size w W → Ps D W (n + 1) cs s → (∀ b, W.heap.size ≤ b → D b) → Sml (n + 1) s → Calls Try.prog 8 #[.agg cs, .slice p2 (l.length - m) (c - m)] W (ExP D n s (l.drop m) W)) := fun W cs s D hb hr hd hs => by
    have := extend_calls D n cs s p2 (c - m) (l.drop m) W hr hd hs ((hp2.below hb).mono hb.size) (fun i e he => hS (m + i) e (by rw [List.getElem?_drop] at he; exact he)) (by omega) (smallZ n)
    rw [edr] at this
    exact this
  have HCat : Hid (l.take m ++ l.drop m = l) := hcat
  clear hL hS hm hp1 hp2 etk edr hcat hml hcap
  have HQ : Hid (∀ w', Below w.heap.size w w' → (fun e w' => e = Ending.returned (.bool true) ∧ Below w.heap.size w w') (.returned (.bool true)) w') := fun w' h => ⟨rfl, h⟩
  generalize (fun e w' => e = Ending.returned (.bool true) ∧ Below w.heap.size w w') = Q at HQ ⊢
  go_enter Try.func3, Try.ntmps3
  go_wp2_with fail
  refine (KF.out _).mono ?_
  rintro e w1 ⟨rfl, hb⟩
  have HB1 : Hid (Below w.heap.size w w1) := hb
  clear hb KF
  go_wp2_with fail
  refine (K1.out _ HB1.out).mono ?_
  rintro e w2 ⟨⟨c1, s1, k1, code1, rfl, hr1, hm1, hf1⟩, hb⟩
  have i1 := info33s c1 hr1.size
  have z1 : zS.size = c1.size := hr1.size.symm
  have a1 := all_one hr1.one
  have n1 : (w2.alloc (.cells zS 37)).heap[w2.heap.size]? = some (.cells zS 37 (0, 0)) := heap_alloc_new w2 _
  have HB2 : Hid (Below w.heap.size w w2) := bel2 HB1.out hb
  have HS0 : Hid (Rs w2 (n + 1) c1 s1) := hr1
  have HM1 : Hid (Sml (n + 1) s1 ∧ ((1 ≤ r ∧ r ≤ 10 ∧ FoE (n + 1) (s0 r) l s1 k1 code1) ∨ (¬ (1 ≤ r ∧ r ≤ 10) ∧ s1 = s0 0 ∧ k1 = 0 ∧ code1 = 1))) := ⟨hm1, hf1⟩
  clear hb hr1 hm1 hf1 K1 HB1
  go_upto_region 5 with (refine wpList_store_row rfl 37 _ _ rfl w2.heap.size c1 rfl rfl 37 zS n1 i1 z1 a1 ?_)
  rw [World.setRow_alloc_new]
  have hb := bel1 w2 (.cells c1 37)
  have r7a : Hid ((w2.alloc (.cells c1 37)).heap[w2.heap.size]? = some (.cells c1 37 (0, 0))) := heap_alloc_last w2 _
  have HB3 : Hid (Below w.heap.size w (w2.alloc (.cells c1 37))) := bel2 HB2.out hb
  have HS3 : Hid (Rs (w2.alloc (.cells c1 37)) (n + 1) c1 s1) := HS0.out.below hb
  clear hb n1 HS0
  generalize w2.alloc (.cells c1 37) = W3 at r7a HB3 HS3 ⊢
  go_wp2_with fail
  refine (K2.out _ HB3.out).mono ?_
  rintro e w4 ⟨⟨c2, s2, k2, code2, rfl, hr2, hm2, hf2⟩, hb⟩
  have i2 := info33s c2 hr2.size
  have hi2l := info33l c2 hr2.size
  have z2 : zS.size = c2.size := hr2.size.symm
  have a2 := all_one hr2.one
  have n2 : (w4.alloc (.cells zS 37)).heap[w4.heap.size]? = some (.cells zS 37 (0, 0)) := heap_alloc_new w4 _
  have r7b := row_below hb r7a.out
  have HB4 : Hid (Below w.heap.size w w4) := bel2 HB3.out hb
  have HS4 : Hid (Rs w4 (n + 1) c1 s1) := HS3.out.below hb
  have HS42 : Hid (Rs w4 (n + 1) c2 s2) := hr2
  have HM2 : Hid (Sml (n + 1) s2 ∧ ((1 ≤ r ∧ r ≤ 10 ∧ FoE (n + 1) (s0 r) (l.take m) s2 k2 code2) ∨ (¬ (1 ≤ r ∧ r ≤ 10) ∧ s2 = s0 0 ∧ k2 = 0 ∧ code2 = 1))) := ⟨hm2, hf2⟩
  clear hb hr2 hm2 hf2 K2 r7a HB3 HS3
  go_upto_region 6 with (refine wpList_store_row rfl 37 _ _ rfl w4.heap.size c2 rfl rfl 37 zS n2 i2 z2 a2 ?_)
  rw [World.setRow_alloc_new]
  have hb := bel1 w4 (.cells c2 37)
  have r10 : Hid ((w4.alloc (.cells c2 37)).heap[w4.heap.size]? = some (.cells c2 37 (0, 0))) := heap_alloc_last w4 _
  have r7 : Hid ((w4.alloc (.cells c2 37)).heap[w2.heap.size]? = some (.cells c1 37 (0, 0))) := row_below hb r7b
  have HB5 : Hid (Below w.heap.size w (w4.alloc (.cells c2 37))) := bel2 HB4.out hb
  have HS1 : Hid (Rs (w4.alloc (.cells c2 37)) (n + 1) c1 s1) := HS4.out.below hb
  have HS2 : Hid (Rs (w4.alloc (.cells c2 37)) (n + 1) c2 s2) := HS42.out.below hb
  clear hb n2 HS4 HS42 r7b
  generalize w4.alloc (.cells c2 37) = W5 at r10 r7 HB5 HS1 HS2 ⊢
  by_cases hc2 : code2 = 0
  · subst hc2
    have HF2 : Hid (1 ≤ r ∧ r ≤ 10 ∧ FoE (n + 1) (s0 r) (l.take m) s2 k2 0) := by
      rcases HM2.out.2 with h | ⟨_, _, _, h⟩
      · exact h
      · exact absurd h (by decide)
    go_wp2_with fail
    refine wp_region_held_drew (S := (fun w' => w'.rangeAt w4.heap.size 0 c2.toList)) (by kernel_rfl) (row_range r10.out) (fun hHeld => ?_)
    change wpAnyH _ _ _ _ _ _ _ _ (World.drew _)
    refine wpAnyH_take (i := 0) (oi := { dst := some 63, op := Go.Op.load 37 (Go.Operand.tmp 10), type := 37, pos := "law.go:51", after := #[], guard := none }) (v := _) rfl (by kernel_rfl) (by kernel_rfl) (by kernel_rfl) (fun _ _ _ h => h) (yieldsIf_load_mid rfl 37 _ rfl w4.heap.size 0 rfl c2.toList _ (fun w h => h) Try.underlying37 rfl hi2l) hHeld ?_
    simp only [Act.put, List.setIfInBounds_toArray, List.set_cons_zero, List.set_cons_succ]
    refine wpAnyH_take (i := 1) (oi := { dst := some 64, op := Go.Op.move (Go.Operand.tmp 1), type := 22, pos := "law.go:51", after := #[], guard := none }) (v := ?_) rfl (by kernel_rfl) (by kernel_rfl) (by kernel_rfl) (fun _ _ _ h => h) (Or.inl ⟨by rfl, ?_⟩) hHeld ?_
    rotate_left 1
    · (intro w hSw; (try dsimp only at hSw); go_simp <;> with_reducible rfl)
    simp only [Act.put, List.setIfInBounds_toArray, List.set_cons_zero, List.set_cons_succ]
    refine wpAnyH_take (i := 2) (oi := { dst := some 65, op := Go.Op.move (Go.Operand.tmp 2), type := 3, pos := "law.go:51", after := #[], guard := none }) (v := ?_) rfl (by kernel_rfl) (by kernel_rfl) (by kernel_rfl) (fun _ _ _ h => h) (Or.inl ⟨by rfl, ?_⟩) hHeld ?_
    rotate_left 1
    · (intro w hSw; (try dsimp only at hSw); go_simp <;> with_reducible rfl)
    simp only [Act.put, List.setIfInBounds_toArray, List.set_cons_zero, List.set_cons_succ]
    refine wpAnyH_take (i := 3) (oi := { dst := some 66, op := Go.Op.slice 22 (Go.Operand.tmp 64) (some (Go.Operand.tmp 65)) none none, type := 22, pos := "law.go:51", after := #[{ on := 1, ground := Go.Ground.data }, { on := 2, ground := Go.Ground.data }], guard := none }) (v := ?_) rfl (by kernel_rfl) (by kernel_rfl) (by kernel_rfl) (fun _ _ _ h => h) (Or.inl ⟨by rfl, ?_⟩) hHeld ?_
    rotate_left 1
    · (intro w hSw; (try dsimp only at hSw); go_simp <;> with_reducible rfl)
    simp only [Act.put, List.setIfInBounds_toArray, List.set_cons_zero, List.set_cons_succ]
    refine wpAnyH_ready (rs := [4, 9]) (by kernel_rfl) (by simp) ?_
    refine AllReadyH.cons (o := { dst := some 67, op := Go.Op.call { callee := Go.Callee.value (Go.Operand.func 8), args := #[Go.Operand.tmp 63, Go.Operand.tmp 66], argTypes := #[37, 22] }, type := 39, pos := "law.go:51", after := #[{ on := 0, ground := Go.Ground.data }, { on := 3, ground := Go.Ground.data }], guard := none }) rfl (fun K hK => ?_) (AllReadyH.cons (o := { dst := some 13, op := Go.Op.alloc 37, type := 0, pos := "law.go:51", after := #[], guard := none }) rfl (fun K hK => ?_) AllReadyH.nil)
    · go_simp
      have HKE : Hid (Calls Try.prog 8 #[.agg c2, .slice p2 (l.length - m) (c - m)] W5.drew (ExP (fun b => b ≠ W5.heap.size + 0 ∨ True) n s2 (l.drop m) W5.drew)) := K3.out W5.drew c2 s2 _ HB5.out.drew (HS2.out.lt.okk (fun b hb _ => .inr trivial) (fun b hb _ => rfl)) (fun b hb => .inr trivial) HM2.out.1
      refine HKE.out.mono ?_
      rintro e w6 ⟨⟨c3, s3, k3, code3, rfl, hfo3, hps3, _⟩, hb6⟩
      have HR10 : Hid (w6.heap[w4.heap.size]? = some (.cells c2 37 (0, 0))) := row_below hb6 r10.out
      have HR7 : Hid (w6.heap[w2.heap.size]? = some (.cells c1 37 (0, 0))) := row_below hb6 r7.out
      have HB6 : Hid (Below w.heap.size w w6) := bel2 (HB5.out.drew) hb6
      have H3 : Hid (FoE (n + 1) s2 (l.drop m) s3 k3 code3) := hfo3
      have i3 := info33s c3 hps3.size
      have z3 : zS.size = c3.size := hps3.size.symm
      have a3 := all_one hps3.one
      have n3 : (w6.alloc (.cells zS 37)).heap[w6.heap.size]? = some (.cells zS 37 (0, 0)) := heap_alloc_new w6 _
      have P3 : Hid (Rs w6 (n + 1) c3 s3) := hps3.rs
      have P1 : Hid (Rs w6 (n + 1) c1 s1) := (HS1.out.below (Below.refl _ W5).drew).below hb6
      clear hfo3 hps3 hb6
      refine hK.out _ _ (row_range HR10.out) (fun hHeld => ?_)
      clear hK K
      refine wpAnyH_take (i := 5) (oi := { dst := some 62, op := Go.Op.move (Go.Operand.tmp 67), type := 39, pos := "law.go:51", after := #[{ on := 4, ground := Go.Ground.data }], guard := none }) (v := ?_) rfl (by kernel_rfl) (by kernel_rfl) (by kernel_rfl) (fun _ _ _ h => h) (Or.inl ⟨by rfl, ?_⟩) hHeld ?_
      rotate_left 1
      · (intro w hSw; (try dsimp only at hSw); go_simp <;> with_reducible rfl)
      simp only [Act.put, List.setIfInBounds_toArray, List.set_cons_zero, List.set_cons_succ]
      refine wpAnyH_take (i := 6) (oi := { dst := some 68, op := Go.Op.extract (Go.Operand.tmp 62) 0, type := 37, pos := "law.go:51", after := #[{ on := 5, ground := Go.Ground.data }], guard := none }) (v := ?_) rfl (by kernel_rfl) (by kernel_rfl) (by kernel_rfl) (fun _ _ _ h => h) (Or.inl ⟨by rfl, ?_⟩) hHeld ?_
      rotate_left 1
      · (intro w hSw; (try dsimp only at hSw); go_simp <;> with_reducible rfl)
      simp only [Act.put, List.setIfInBounds_toArray, List.set_cons_zero, List.set_cons_succ]
      refine wpAnyH_take (i := 7) (oi := { dst := some 69, op := Go.Op.extract (Go.Operand.tmp 62) 1, type := 3, pos := "law.go:51", after := #[{ on := 5, ground := Go.Ground.data }, { on := 10, ground := Go.Ground.gcOnly Go.Departure.lateStores }], guard := none }) (v := ?_) rfl (by kernel_rfl) (by kernel_rfl) (by kernel_rfl) (fun _ _ _ h => h) (Or.inl ⟨by rfl, ?_⟩) hHeld ?_
      rotate_left 1
      · (intro w hSw; (try dsimp only at hSw); go_simp <;> with_reducible rfl)
      simp only [Act.put, List.setIfInBounds_toArray, List.set_cons_zero, List.set_cons_succ]
      refine wpAnyH_take (i := 8) (oi := { dst := some 70, op := Go.Op.extract (Go.Operand.tmp 62) 2, type := 38, pos := "law.go:51", after := #[{ on := 5, ground := Go.Ground.data }, { on := 11, ground := Go.Ground.gcOnly Go.Departure.lateStores }], guard := none }) (v := ?_) rfl (by kernel_rfl) (by kernel_rfl) (by kernel_rfl) (fun _ _ _ h => h) (Or.inl ⟨by rfl, ?_⟩) hHeld ?_
      rotate_left 1
      · (intro w hSw; (try dsimp only at hSw); go_simp <;> with_reducible rfl)
      simp only [Act.put, List.setIfInBounds_toArray, List.set_cons_zero, List.set_cons_succ]
      refine wpAnyH_ready (rs := [9]) (by kernel_rfl) (by simp) ?_
      refine AllReadyH.cons (o := { dst := some 13, op := Go.Op.alloc 37, type := 0, pos := "law.go:51", after := #[], guard := none }) rfl (fun K hK => ?_) AllReadyH.nil
      go_simp
      refine hK.out _ _ (row_range (row_below (bel1 w6 _) HR10.out)) (fun hHeld => ?_)
      clear hK K
      try simp only [Act.put]
      refine wpAnyH_ready (rs := [10]) (by kernel_rfl) (by simp) ?_
      refine AllReadyH.cons (o := { dst := none, op := Go.Op.store 37 (Go.Operand.tmp 13) (Go.Operand.tmp 68), type := 0, pos := "law.go:51", after := #[{ on := 9, ground := Go.Ground.data }, { on := 6, ground := Go.Ground.data }, { on := 4, ground := Go.Ground.chain }, { on := 0, ground := Go.Ground.phase }, { on := 1, ground := Go.Ground.phase }, { on := 2, ground := Go.Ground.phase }, { on := 3, ground := Go.Ground.phase }, { on := 4, ground := Go.Ground.phase }, { on := 5, ground := Go.Ground.phase }, { on := 6, ground := Go.Ground.phase }, { on := 7, ground := Go.Ground.textOnly Go.Departure.lateStores }, { on := 8, ground := Go.Ground.textOnly Go.Departure.lateStores }, { on := 9, ground := Go.Ground.phase }], guard := none }) rfl (fun K hK => ?_) AllReadyH.nil
      rw [if_pos (by rfl)]
      refine wp_store_row 37 _ _ rfl w6.heap.size c3 rfl rfl 37 zS n3 i3 z3 a3 ?_
      rw [World.setRow_alloc_new]
      refine hK.out _ _ (row_range (row_below (bel1 w6 _) HR10.out)) (fun hHeld => ?_)
      clear hK K
      simp only [Act.put]
      refine wpAnyH_take (i := 11) (oi := { dst := some 14, op := Go.Op.assign (Go.Operand.tmp 69), type := 3, pos := "law.go:51", after := #[{ on := 7, ground := Go.Ground.data }, { on := 10, ground := Go.Ground.chain }, { on := 0, ground := Go.Ground.phase }, { on := 1, ground := Go.Ground.phase }, { on := 2, ground := Go.Ground.phase }, { on := 3, ground := Go.Ground.phase }, { on := 4, ground := Go.Ground.phase }, { on := 5, ground := Go.Ground.phase }, { on := 6, ground := Go.Ground.phase }, { on := 7, ground := Go.Ground.phase }, { on := 8, ground := Go.Ground.textOnly Go.Departure.lateStores }, { on := 9, ground := Go.Ground.phase }, { on := 10, ground := Go.Ground.phase }], guard := none }) (v := ?_) rfl (by kernel_rfl) (by kernel_rfl) (by kernel_rfl) (fun _ _ _ h => h) (Or.inl ⟨by rfl, ?_⟩) hHeld ?_
      rotate_left 1
      · (intro w hSw; (try dsimp only at hSw); go_simp <;> with_reducible rfl)
      simp only [Act.put, List.setIfInBounds_toArray, List.set_cons_zero, List.set_cons_succ]
      refine wpAnyH_take (i := 12) (oi := { dst := some 15, op := Go.Op.assign (Go.Operand.tmp 70), type := 38, pos := "law.go:51", after := #[{ on := 8, ground := Go.Ground.data }, { on := 11, ground := Go.Ground.chain }, { on := 0, ground := Go.Ground.phase }, { on := 1, ground := Go.Ground.phase }, { on := 2, ground := Go.Ground.phase }, { on := 3, ground := Go.Ground.phase }, { on := 4, ground := Go.Ground.phase }, { on := 5, ground := Go.Ground.phase }, { on := 6, ground := Go.Ground.phase }, { on := 7, ground := Go.Ground.phase }, { on := 8, ground := Go.Ground.phase }, { on := 9, ground := Go.Ground.phase }, { on := 10, ground := Go.Ground.phase }, { on := 11, ground := Go.Ground.phase }], guard := none }) (v := ?_) rfl (by kernel_rfl) (by kernel_rfl) (by kernel_rfl) (fun _ _ _ h => h) (Or.inl ⟨by rfl, ?_⟩) hHeld ?_
      rotate_left 1
      · (intro w hSw; (try dsimp only at hSw); go_simp <;> with_reducible rfl)
      simp only [Act.put, List.setIfInBounds_toArray, List.set_cons_zero, List.set_cons_succ]
      refine wpAnyH_done (by kernel_rfl) ?_ _
      have HBz : Hid (Below w.heap.size w (w6.alloc (.cells c3 37))) := bel2 HB6.out (bel1 _ _)
      have r13 : (w6.alloc (.cells c3 37)).heap[w6.heap.size]? = some (.cells c3 37 (0, 0)) := heap_alloc_last w6 _
      have q7 : (w6.alloc (.cells c3 37)).heap[w2.heap.size]? = some (.cells c1 37 (0, 0)) := row_below (bel1 _ _) HR7.out
      have RS3 : Hid (Rs (w6.alloc (.cells c3 37)) (n + 1) c3 s3) := P3.out.below (bel1 _ _)
      have RS1 : Hid (Rs (w6.alloc (.cells c3 37)) (n + 1) c1 s1) := P1.out.below (bel1 _ _)
      generalize w6.alloc (.cells c3 37) = W7 at HBz r13 q7 RS3 RS1 ⊢
      have HD : Hid (s3 = s1 ∧ k2 + k3 = k1 ∧ code3 = code1) := hdet2 HF2.out H3.out HM1.out.2 HCat.out
      obtain ⟨e1, e2, e3⟩ := HD.out
      have hk := hsum2 HF2.out.2.2 H3.out HM.out
      rw [e2] at hk
      subst e1
      subst e3
      have KS : Hid (Calls Try.prog 7 #[.agg c3, .agg c1] W7 _) := ssame_calls (n + 1) c3 c1 s3 W7 RS3.out RS1.out (by have := HM1.out.1.lt; omega) (by have := HM1.out.1.lu; omega)
      clear n3 HD e2 P3 P1 RS3 RS1
      go_wp2_with (first | refine wpList_load_rowG rfl 37 _ rfl w6.heap.size rfl 37 c3 (0, 0) _ r13 Try.underlying37 rfl i3 ?_ | refine wpList_load_rowG rfl 37 _ rfl w2.heap.size rfl 37 c1 (0, 0) _ q7 Try.underlying37 rfl i1 ?_)
      refine KS.out.mono ?_
      rintro e w8 ⟨rfl, hb⟩
      have HB8 : Hid (Below w.heap.size w w8) := bel2 HBz.out hb
      clear hb r13 q7 KS
      go_wp2_with fail
      refine (KA.out _).mono ?_
      rintro e w9 ⟨rfl, hb⟩
      have HB9 : Hid (Below w.heap.size w w9) := bel2 HB8.out hb
      clear hb
      go_wp2_with fail
      exact HQ.out _ HB9.out
    · go_simp
      have hbz := bel1 W5.drew (.cells zS 37)
      have rz10 : Hid ((W5.drew.alloc (.cells zS 37)).heap[w4.heap.size]? = some (.cells c2 37 (0, 0))) := row_below hbz r10.out
      have rz7 : Hid ((W5.drew.alloc (.cells zS 37)).heap[w2.heap.size]? = some (.cells c1 37 (0, 0))) := row_below hbz r7.out
      have rzz : Hid ((W5.drew.alloc (.cells zS 37)).heap[W5.heap.size]? = some (.cells zS 37 (0, 0))) := heap_alloc_last W5.drew _
      have HBz5 : Hid (Below w.heap.size w (W5.drew.alloc (.cells zS 37))) := bel2 HB5.out.drew hbz
      have hk5 : Below W5.heap.size W5 (W5.drew.alloc (.cells zS 37)) := bel2 (Below.refl _ W5).drew hbz
      have HZ5 : Hid (W5.heap.size < (W5.drew.alloc (.cells zS 37)).heap.size) := by show _ < _; simp
      have HKE : Hid (Calls Try.prog 8 #[.agg c2, .slice p2 (l.length - m) (c - m)] (W5.drew.alloc (.cells zS 37)) (ExP (fun b => b ≠ W5.heap.size) n s2 (l.drop m) (W5.drew.alloc (.cells zS 37)))) := K3.out _ c2 s2 _ HBz5.out (HS2.out.lt.okk (fun b hb _ => by omega) (fun b hb _ => hk5.block b hb)) (fun b hb => by have := HZ5.out; omega) HM2.out.1
      have HS1z : Hid (Ps (fun b => b < W5.heap.size) (W5.drew.alloc (.cells zS 37)) (n + 1) c1 s1) := HS1.out.lt.okk (fun _ hb _ => hb) (fun b hb _ => hk5.block b hb)
      clear hbz hk5
      change K _ (W5.drew.alloc (.cells zS 37))
      generalize W5.drew.alloc (.cells zS 37) = Wz at rz10 rz7 rzz HBz5 HZ5 HKE HS1z ⊢
      refine hK.out _ _ (row_range rz10.out) (fun hHeld => ?_)
      clear hK K
      try simp only [Act.put]
      refine wpAnyH_ready (rs := [4]) (by kernel_rfl) (by simp) ?_
      refine AllReadyH.cons (o := { dst := some 67, op := Go.Op.call { callee := Go.Callee.value (Go.Operand.func 8), args := #[Go.Operand.tmp 63, Go.Operand.tmp 66], argTypes := #[37, 22] }, type := 39, pos := "law.go:51", after := #[{ on := 0, ground := Go.Ground.data }, { on := 3, ground := Go.Ground.data }], guard := none }) rfl (fun K hK => ?_) AllReadyH.nil
      go_simp
      refine HKE.out.mono ?_
      rintro e w6 ⟨⟨c3, s3, k3, code3, rfl, hfo3, hps3, _⟩, hb6⟩
      have HR10 : Hid (w6.heap[w4.heap.size]? = some (.cells c2 37 (0, 0))) := row_below hb6 rz10.out
      have HR7 : Hid (w6.heap[w2.heap.size]? = some (.cells c1 37 (0, 0))) := row_below hb6 rz7.out
      have HB6 : Hid (Below w.heap.size w w6) := bel2 (HBz5.out) hb6
      have H3 : Hid (FoE (n + 1) s2 (l.drop m) s3 k3 code3) := hfo3
      have i3 := info33s c3 hps3.size
      have z3 : zS.size = c3.size := hps3.size.symm
      have a3 := all_one hps3.one
      have n3 : w6.heap[W5.heap.size]? = some (.cells zS 37 (0, 0)) := row_below hb6 rzz.out
      have P3 : Hid (Ps (fun b => b ≠ W5.heap.size) w6 (n + 1) c3 s3) := hps3
      have P1 : Hid (Ps (fun b => b < W5.heap.size) w6 (n + 1) c1 s1) := HS1z.out.okk (fun _ _ h => h) (fun b hb _ => hb6.block b hb)
      clear hfo3 hps3 hb6
      refine hK.out _ _ (row_range HR10.out) (fun hHeld => ?_)
      clear hK K
      refine wpAnyH_take (i := 5) (oi := { dst := some 62, op := Go.Op.move (Go.Operand.tmp 67), type := 39, pos := "law.go:51", after := #[{ on := 4, ground := Go.Ground.data }], guard := none }) (v := ?_) rfl (by kernel_rfl) (by kernel_rfl) (by kernel_rfl) (fun _ _ _ h => h) (Or.inl ⟨by rfl, ?_⟩) hHeld ?_
      rotate_left 1
      · (intro w hSw; (try dsimp only at hSw); go_simp <;> with_reducible rfl)
      simp only [Act.put, List.setIfInBounds_toArray, List.set_cons_zero, List.set_cons_succ]
      refine wpAnyH_take (i := 6) (oi := { dst := some 68, op := Go.Op.extract (Go.Operand.tmp 62) 0, type := 37, pos := "law.go:51", after := #[{ on := 5, ground := Go.Ground.data }], guard := none }) (v := ?_) rfl (by kernel_rfl) (by kernel_rfl) (by kernel_rfl) (fun _ _ _ h => h) (Or.inl ⟨by rfl, ?_⟩) hHeld ?_
      rotate_left 1
      · (intro w hSw; (try dsimp only at hSw); go_simp <;> with_reducible rfl)
      simp only [Act.put, List.setIfInBounds_toArray, List.set_cons_zero, List.set_cons_succ]
      refine wpAnyH_take (i := 7) (oi := { dst := some 69, op := Go.Op.extract (Go.Operand.tmp 62) 1, type := 3, pos := "law.go:51", after := #[{ on := 5, ground := Go.Ground.data }, { on := 10, ground := Go.Ground.gcOnly Go.Departure.lateStores }], guard := none }) (v := ?_) rfl (by kernel_rfl) (by kernel_rfl) (by kernel_rfl) (fun _ _ _ h => h) (Or.inl ⟨by rfl, ?_⟩) hHeld ?_
      rotate_left 1
      · (intro w hSw; (try dsimp only at hSw); go_simp <;> with_reducible rfl)
      simp only [Act.put, List.setIfInBounds_toArray, List.set_cons_zero, List.set_cons_succ]
      refine wpAnyH_take (i := 8) (oi := { dst := some 70, op := Go.Op.extract (Go.Operand.tmp 62) 2, type := 38, pos := "law.go:51", after := #[{ on := 5, ground := Go.Ground.data }, { on := 11, ground := Go.Ground.gcOnly Go.Departure.lateStores }], guard := none }) (v := ?_) rfl (by kernel_rfl) (by kernel_rfl) (by kernel_rfl) (fun _ _ _ h => h) (Or.inl ⟨by rfl, ?_⟩) hHeld ?_
      rotate_left 1
      · (intro w hSw; (try dsimp only at hSw); go_simp <;> with_reducible rfl)
      simp only [Act.put, List.setIfInBounds_toArray, List.set_cons_zero, List.set_cons_succ]
      refine wpAnyH_ready (rs := [10]) (by kernel_rfl) (by simp) ?_
      refine AllReadyH.cons (o := { dst := none, op := Go.Op.store 37 (Go.Operand.tmp 13) (Go.Operand.tmp 68), type := 0, pos := "law.go:51", after := #[{ on := 9, ground := Go.Ground.data }, { on := 6, ground := Go.Ground.data }, { on := 4, ground := Go.Ground.chain }, { on := 0, ground := Go.Ground.phase }, { on := 1, ground := Go.Ground.phase }, { on := 2, ground := Go.Ground.phase }, { on := 3, ground := Go.Ground.phase }, { on := 4, ground := Go.Ground.phase }, { on := 5, ground := Go.Ground.phase }, { on := 6, ground := Go.Ground.phase }, { on := 7, ground := Go.Ground.textOnly Go.Departure.lateStores }, { on := 8, ground := Go.Ground.textOnly Go.Departure.lateStores }, { on := 9, ground := Go.Ground.phase }], guard := none }) rfl (fun K hK => ?_) AllReadyH.nil
      rw [if_pos (by rfl)]
      refine wp_store_row 37 _ _ rfl W5.heap.size c3 rfl rfl 37 zS n3 i3 z3 a3 ?_
      refine hK.out _ _ (row_range (show (World.setRow _ _ _).heap[w4.heap.size]? = _ from (setRow_other _ _ _ _ (by have := (Array.getElem?_eq_some_iff.1 r10.out).1; omega)).trans HR10.out)) (fun hHeld => ?_)
      clear hK K
      simp only [Act.put]
      refine wpAnyH_take (i := 11) (oi := { dst := some 14, op := Go.Op.assign (Go.Operand.tmp 69), type := 3, pos := "law.go:51", after := #[{ on := 7, ground := Go.Ground.data }, { on := 10, ground := Go.Ground.chain }, { on := 0, ground := Go.Ground.phase }, { on := 1, ground := Go.Ground.phase }, { on := 2, ground := Go.Ground.phase }, { on := 3, ground := Go.Ground.phase }, { on := 4, ground := Go.Ground.phase }, { on := 5, ground := Go.Ground.phase }, { on := 6, ground := Go.Ground.phase }, { on := 7, ground := Go.Ground.phase }, { on := 8, ground := Go.Ground.textOnly Go.Departure.lateStores }, { on := 9, ground := Go.Ground.phase }, { on := 10, ground := Go.Ground.phase }], guard := none }) (v := ?_) rfl (by kernel_rfl) (by kernel_rfl) (by kernel_rfl) (fun _ _ _ h => h) (Or.inl ⟨by rfl, ?_⟩) hHeld ?_
      rotate_left 1
      · (intro w hSw; (try dsimp only at hSw); go_simp <;> with_reducible rfl)
      simp only [Act.put, List.setIfInBounds_toArray, List.set_cons_zero, List.set_cons_succ]
      refine wpAnyH_take (i := 12) (oi := { dst := some 15, op := Go.Op.assign (Go.Operand.tmp 70), type := 38, pos := "law.go:51", after := #[{ on := 8, ground := Go.Ground.data }, { on := 11, ground := Go.Ground.chain }, { on := 0, ground := Go.Ground.phase }, { on := 1, ground := Go.Ground.phase }, { on := 2, ground := Go.Ground.phase }, { on := 3, ground := Go.Ground.phase }, { on := 4, ground := Go.Ground.phase }, { on := 5, ground := Go.Ground.phase }, { on := 6, ground := Go.Ground.phase }, { on := 7, ground := Go.Ground.phase }, { on := 8, ground := Go.Ground.phase }, { on := 9, ground := Go.Ground.phase }, { on := 10, ground := Go.Ground.phase }, { on := 11, ground := Go.Ground.phase }], guard := none }) (v := ?_) rfl (by kernel_rfl) (by kernel_rfl) (by kernel_rfl) (fun _ _ _ h => h) (Or.inl ⟨by rfl, ?_⟩) hHeld ?_
      rotate_left 1
      · (intro w hSw; (try dsimp only at hSw); go_simp <;> with_reducible rfl)
      simp only [Act.put, List.setIfInBounds_toArray, List.set_cons_zero, List.set_cons_succ]
      refine wpAnyH_done (by kernel_rfl) ?_ _
      have HBz : Hid (Below w.heap.size w (w6.setRow W5.heap.size c3)) := below_setRow HB6.out HB5.out.size _
      have r13 : (w6.setRow W5.heap.size c3).heap[W5.heap.size]? = some (.cells c3 37 (0, 0)) := setRow_heap w6 W5.heap.size zS c3 37 (0, 0) n3
      have q7 : (w6.setRow W5.heap.size c3).heap[w2.heap.size]? = some (.cells c1 37 (0, 0)) := (setRow_other _ _ _ _ (by have := (Array.getElem?_eq_some_iff.1 r7.out).1; omega)).trans HR7.out
      have RS3 : Hid (Rs (w6.setRow W5.heap.size c3) (n + 1) c3 s3) := (P3.out.okk (ok' := fun _ => True) (fun _ _ _ => trivial) (fun b _ h => setRow_other w6 _ _ _ h)).rs
      have RS1 : Hid (Rs (w6.setRow W5.heap.size c3) (n + 1) c1 s1) := (P1.out.okk (ok' := fun _ => True) (fun _ _ _ => trivial) (fun b _ h => setRow_other w6 _ _ _ (by omega))).rs
      generalize w6.setRow W5.heap.size c3 = W7 at HBz r13 q7 RS3 RS1 ⊢
      have HD : Hid (s3 = s1 ∧ k2 + k3 = k1 ∧ code3 = code1) := hdet2 HF2.out H3.out HM1.out.2 HCat.out
      obtain ⟨e1, e2, e3⟩ := HD.out
      have hk := hsum2 HF2.out.2.2 H3.out HM.out
      rw [e2] at hk
      subst e1
      subst e3
      have KS : Hid (Calls Try.prog 7 #[.agg c3, .agg c1] W7 _) := ssame_calls (n + 1) c3 c1 s3 W7 RS3.out RS1.out (by have := HM1.out.1.lt; omega) (by have := HM1.out.1.lu; omega)
      clear n3 HD e2 P3 P1 RS3 RS1
      go_wp2_with (first | refine wpList_load_rowG rfl 37 _ rfl W5.heap.size rfl 37 c3 (0, 0) _ r13 Try.underlying37 rfl i3 ?_ | refine wpList_load_rowG rfl 37 _ rfl w2.heap.size rfl 37 c1 (0, 0) _ q7 Try.underlying37 rfl i1 ?_)
      refine KS.out.mono ?_
      rintro e w8 ⟨rfl, hb⟩
      have HB8 : Hid (Below w.heap.size w w8) := bel2 HBz.out hb
      clear hb r13 q7 KS
      go_wp2_with fail
      refine (KA.out _).mono ?_
      rintro e w9 ⟨rfl, hb⟩
      have HB9 : Hid (Below w.heap.size w w9) := bel2 HB8.out hb
      clear hb
      go_wp2_with fail
      exact HQ.out _ HB9.out
  · have HD : Hid (s1 = s2 ∧ k1 = k2 ∧ code1 = code2) := by
      rcases HM2.out.2 with ⟨g1, g2, h2⟩ | ⟨h0, h2⟩
      · have h := h2.stop (l' := l.drop m) hc2
        rw [HCat.out] at h
        rcases HM1.out.2 with ⟨_, _, h1⟩ | ⟨h0, _⟩
        · exact h1.det h
        · exact absurd ⟨g1, g2⟩ h0
      · rcases HM1.out.2 with ⟨g1, g2, _⟩ | ⟨_, h1⟩
        · exact absurd ⟨g1, g2⟩ h0
        · exact ⟨by rw [h1.1, h2.1], by rw [h1.2.1, h2.2.1], by rw [h1.2.2, h2.2.2]⟩
    obtain ⟨e1, e2, e3⟩ := HD.out
    subst e1
    subst e2
    subst e3
    have hce : (code1 == 0) = false := by simpa using hc2
    have hcn : (code1 != 0) = true := by simpa using hc2
    have KS : Hid (Calls Try.prog 7 #[.agg c1, .agg c2] W5 _) := ssame_calls (n + 1) c1 c2 s1 W5 HS1.out HS2.out (by have := HM1.out.1.lt; omega) (by have := HM1.out.1.lu; omega)
    have q7 := r7.out
    have q10 := r10.out
    clear HD
    go_wp2_with (first
      | refine wpList_load_rowG rfl 37 _ rfl w4.heap.size rfl 37 c2 (0, 0) _ q10 Try.underlying37 rfl i2 ?_
      | refine wpList_load_rowG rfl 37 _ rfl w2.heap.size rfl 37 c1 (0, 0) _ q7 Try.underlying37 rfl i1 ?_)
    refine KS.out.mono ?_
    rintro e w8 ⟨rfl, hb⟩
    have HB8 : Hid (Below w.heap.size w w8) := bel2 HB5.out hb
    clear hb q7 q10 KS
    go_wp2_with fail
    refine (KA.out _).mono ?_
    rintro e w9 ⟨rfl, hb⟩
    have HB9 : Hid (Below w.heap.size w w9) := bel2 HB8.out hb
    clear hb
    go_wp2_with fail
    exact HQ.out _ HB9.out
end Go.Proofs.Ytghclnpklindgaa
