/- The general Step; which states can be: put together from UL UM UN UO XA XB XC SR XD XE. -/
import Derived.Test.YthphgkaifnacbaaGreatUK
import Derived.Test.YthphgkaifnacbaaGreatSS
import Derived.Test.YthphgkaifnacbaaGreatVC
import Derived.Test.YthphgkaifnacbaaGreatVK
import Derived.Test.YthphgkaifnacbaaGreatLA
import Derived.Test.YthphgkaifnacbaaGreatUB
import Derived.Test.YthphgkaifnacbaaGreatSQ
import Derived.Test.YthphgkaifnacbaaGreatVB
import Derived.Laws.StructEq
import Derived.Test.YthphgkaifnacbaaGreatUA
namespace Go.Proofs.YthphgkaifnacbaaGreat
open Go.ChangeShapes Go.WideShapes Go.ChangeAt Go.RowKit
/-- What an event of kind 1 makes. -/
def ch1 (s : Sta) (x : Ev) : Sta := { s with count := wrap64 (s.count + 1), time := x.t, status := 1, fresh := true, typ := x.s, inp := x.v, dl := x.d, pf := x.f, pc := x.c, pm := x.m }
/-- What an event of kind 2 makes. -/
def ch2 (s : Sta) (x : Ev) : Sta := { s with count := wrap64 (s.count + 1), time := x.t, ts := 1, ta := x.n, td := x.d, te := 0, tn := 0 }
/-- What an event of kind 3 makes. -/
def ch3 (s : Sta) (x : Ev) : Sta := { s with count := wrap64 (s.count + 1), time := x.t, ts := 2, td := x.d, te := wrap64 (s.count + 1), tn := wrap64 (s.count + 1), fresh := false }
/-- What an event of kind 4 makes. -/
def ch4 (s : Sta) (x : Ev) : Sta := { s with count := wrap64 (s.count + 1), time := x.t, ts := 0, ta := 0, td := 0, te := 0, tn := 0 }
/-- What an event of kind 5 makes. -/
def ch5 (s : Sta) (x : Ev) : Sta := { s with count := wrap64 (s.count + 1), time := x.t, ts := 0, ta := 0, td := 0, te := 0, tn := 0, fr := x.n }
/-- What an event of kind 7 makes. -/
def ch7 (s : Sta) (x : Ev) : Sta := { s with count := wrap64 (s.count + 1), time := x.t, sig := wrap64 (s.sig + 1), fresh := true }
/-- What an event of kind 8 makes. -/
def ch8 (s : Sta) (x : Ev) : Sta := { s with count := wrap64 (s.count + 1), time := x.t, cancel := true, fresh := true }
/-- What an event of kind 9 makes. -/
def ch9 (s : Sta) (x : Ev) : Sta := { s with count := wrap64 (s.count + 1), time := x.t, tm := insL (fun d => gtS d.s x.s) s.tm ⟨x.s, x.d⟩ }
/-- What an event of kind 10 makes. -/
def ch10 (s : Sta) (x : Ev) : Sta := { s with count := wrap64 (s.count + 1), time := x.t, tm := delL s.tm (tmAt s x.s).toNat, fresh := true }
/-- What an event of kind 11 makes. -/
def ch11 (s : Sta) (x : Ev) : Sta := { s with count := wrap64 (s.count + 1), time := x.t, tm := delL s.tm (tmAt s x.s).toNat }
/-- What an event of kind 12 makes. -/
def ch12 (s : Sta) (x : Ev) : Sta := { s with count := wrap64 (s.count + 1), time := x.t, up := insL (fun d => gtS d.s x.s) s.up ⟨x.s, x.v, 1, zE⟩ }
/-- What an event of kind 13 makes. -/
def ch13 (s : Sta) (x : Ev) : Sta := { s with count := wrap64 (s.count + 1), time := x.t, up := s.up.modify (waAt s x.s).toNat (fun u => { u with g := 2, o := x.v }) }
/-- What an event of kind 14 makes. -/
def ch14 (s : Sta) (x : Ev) : Sta := { s with count := wrap64 (s.count + 1), time := x.t }
/-- What an event of kind 15 makes. -/
def ch15 (s : Sta) (x : Ev) : Sta := { s with count := wrap64 (s.count + 1), time := x.t, ts := 0, ta := 0, td := 0, te := 0, tn := 0, tm := [], status := 2, res := x.v }
/-- What an event of kind 16 makes. -/
def ch16 (s : Sta) (x : Ev) : Sta := { s with count := wrap64 (s.count + 1), time := x.t, ts := 0, ta := 0, td := 0, te := 0, tn := 0, tm := [], status := 3, rea := x.s }
/-- What an event of kind 17 makes. -/
def ch17 (s : Sta) (x : Ev) : Sta := { s with count := wrap64 (s.count + 1), time := x.t, ts := 0, ta := 0, td := 0, te := 0, tn := 0, tm := [], status := 4 }
/-- What an event of kind 18 makes. -/
def ch18 (s : Sta) (x : Ev) : Sta := { s with count := wrap64 (s.count + 1), time := x.t, ts := 0, ta := 0, td := 0, te := 0, tn := 0, tm := [], status := 5, rea := x.s }
/-- What an event of kind 19 makes. -/
def ch19 (s : Sta) (x : Ev) : Sta := { s with count := wrap64 (s.count + 1), time := x.t, ts := 0, ta := 0, td := 0, te := 0, tn := 0, tm := [], status := 6 }
/-- What an event makes of a state. -/
def chg (s : Sta) (x : Ev) : Sta :=
  if x.k = 1 then ch1 s x else if x.k = 2 then ch2 s x else if x.k = 3 then ch3 s x else if x.k = 4 ∨ x.k = 5 ∨ x.k = 6 then (if 0 < x.n then ch5 s x else ch4 s x) else if x.k = 7 then ch7 s x else if x.k = 8 then ch8 s x
  else if x.k = 9 then ch9 s x else if x.k = 10 then ch10 s x else if x.k = 11 then ch11 s x else if x.k = 12 then ch12 s x else if x.k = 13 then ch13 s x else if x.k = 15 then ch15 s x else if x.k = 16 then ch16 s x
  else if x.k = 17 then ch17 s x else if x.k = 18 then ch18 s x else if x.k = 19 then ch19 s x else ch14 s x
theorem chg_from (s : Sta) (x : Ev) (h : x.k = 4 ∨ x.k = 5 ∨ x.k = 6) : chg s x = if 0 < x.n then ch5 s x else ch4 s x := by
  unfold chg
  rw [if_neg (by omega), if_neg (by omega), if_neg (by omega), if_pos h]
theorem chg_1 (s : Sta) (x : Ev) (h : x.k = 1) : chg s x = ch1 s x := by simp [chg, h]
theorem chg_2 (s : Sta) (x : Ev) (h : x.k = 2) : chg s x = ch2 s x := by simp [chg, h]
theorem chg_3 (s : Sta) (x : Ev) (h : x.k = 3) : chg s x = ch3 s x := by simp [chg, h]
theorem chg_7 (s : Sta) (x : Ev) (h : x.k = 7) : chg s x = ch7 s x := by simp [chg, h]
theorem chg_8 (s : Sta) (x : Ev) (h : x.k = 8) : chg s x = ch8 s x := by simp [chg, h]
theorem chg_9 (s : Sta) (x : Ev) (h : x.k = 9) : chg s x = ch9 s x := by simp [chg, h]
theorem chg_10 (s : Sta) (x : Ev) (h : x.k = 10) : chg s x = ch10 s x := by simp [chg, h]
theorem chg_11 (s : Sta) (x : Ev) (h : x.k = 11) : chg s x = ch11 s x := by simp [chg, h]
theorem chg_12 (s : Sta) (x : Ev) (h : x.k = 12) : chg s x = ch12 s x := by simp [chg, h]
theorem chg_13 (s : Sta) (x : Ev) (h : x.k = 13) : chg s x = ch13 s x := by simp [chg, h]
theorem chg_14 (s : Sta) (x : Ev) (h : x.k = 14) : chg s x = ch14 s x := by simp [chg, h]
theorem chg_15 (s : Sta) (x : Ev) (h : x.k = 15) : chg s x = ch15 s x := by simp [chg, h]
theorem chg_16 (s : Sta) (x : Ev) (h : x.k = 16) : chg s x = ch16 s x := by simp [chg, h]
theorem chg_17 (s : Sta) (x : Ev) (h : x.k = 17) : chg s x = ch17 s x := by simp [chg, h]
theorem chg_18 (s : Sta) (x : Ev) (h : x.k = 18) : chg s x = ch18 s x := by simp [chg, h]
theorem chg_19 (s : Sta) (x : Ev) (h : x.k = 19) : chg s x = ch19 s x := by simp [chg, h]
theorem ig1 {R R' : Value → Tv → Prop} {cs : Array Value} {s : Sta} (x : Ev) {k0 x0 b0 : Int} {s0 : ByteArray} {a0 : Option Addr} {m0 n0 : Nat} (hv : R' (.agg #[.int .i64 k0, .int .i64 x0, .int .u64 b0, .string s0, .slice a0 m0 n0]) x.v) (h : Ig R cs s) (hR : ∀ v t, R v t → R' v t) : Ig R' (puts cs [(2, .int .i64 (wrap64 (s.count + 1))), (3, .int .i64 x.t), (1, .int .i64 1), (21, .bool true), (7, .string x.s), (8, .int .i64 k0), (9, .int .i64 x0), (10, .int .u64 b0), (11, .string s0), (12, .slice a0 m0 n0), (4, .int .i64 x.d), (13, .int .i64 x.f), (14, .int .u64 (x.c : Int)), (15, .int .i64 x.m)]) (ch1 s x) :=
  { size := by rw [puts_size]; exact h.size, c0 := (puts_ne (by simp)).trans h.c0, c1 := by simp [puts, ch1, h.size], c2 := by simp [puts, ch1, h.size], c3 := by simp [puts, ch1, h.size], c4 := by simp [puts, ch1, h.size], c5 := (puts_ne (by simp)).trans h.c5, c6 := (puts_ne (by simp)).trans h.c6, c7 := by simp [puts, ch1, h.size], c13 := by simp [puts, ch1, h.size], c14 := by simp [puts, ch1, h.size], c15 := by simp [puts, ch1, h.size], c16 := (puts_ne (by simp)).trans h.c16, c17 := (puts_ne (by simp)).trans h.c17, c18 := (puts_ne (by simp)).trans h.c18, c19 := (puts_ne (by simp)).trans h.c19, c20 := (puts_ne (by simp)).trans h.c20, c21 := by simp [puts, ch1, h.size], c22 := (puts_ne (by simp)).trans h.c22, c30 := (puts_ne (by simp)).trans h.c30, inp := ⟨k0, x0, b0, s0, a0, m0, n0, by simp [puts, h.size], by simp [puts, h.size], by simp [puts, h.size], by simp [puts, h.size], by simp [puts, h.size], hv⟩, res := (h.res.map fun v => hR v _).other fun q h1 h2 => puts_ne (by simp; omega) }
theorem ig2 {R R' : Value → Tv → Prop} {cs : Array Value} {s : Sta} (x : Ev) (h : Ig R cs s) (hR : ∀ v t, R v t → R' v t) : Ig R' (puts cs [(2, .int .i64 (wrap64 (s.count + 1))), (3, .int .i64 x.t), (16, .int .i64 1), (17, .int .i64 x.n), (18, .int .i64 x.d), (19, .int .i64 0), (20, .int .i64 0)]) (ch2 s x) :=
  { size := by rw [puts_size]; exact h.size, c0 := (puts_ne (by simp)).trans h.c0, c1 := (puts_ne (by simp)).trans h.c1, c2 := by simp [puts, ch2, h.size], c3 := by simp [puts, ch2, h.size], c4 := (puts_ne (by simp)).trans h.c4, c5 := (puts_ne (by simp)).trans h.c5, c6 := (puts_ne (by simp)).trans h.c6, c7 := (puts_ne (by simp)).trans h.c7, c13 := (puts_ne (by simp)).trans h.c13, c14 := (puts_ne (by simp)).trans h.c14, c15 := (puts_ne (by simp)).trans h.c15, c16 := by simp [puts, ch2, h.size], c17 := by simp [puts, ch2, h.size], c18 := by simp [puts, ch2, h.size], c19 := by simp [puts, ch2, h.size], c20 := by simp [puts, ch2, h.size], c21 := (puts_ne (by simp)).trans h.c21, c22 := (puts_ne (by simp)).trans h.c22, c30 := (puts_ne (by simp)).trans h.c30, inp := (h.inp.map fun v => hR v _).other fun q h1 h2 => puts_ne (by simp; omega), res := (h.res.map fun v => hR v _).other fun q h1 h2 => puts_ne (by simp; omega) }
theorem ig3 {R R' : Value → Tv → Prop} {cs : Array Value} {s : Sta} (x : Ev) (h : Ig R cs s) (hR : ∀ v t, R v t → R' v t) : Ig R' (puts cs [(2, .int .i64 (wrap64 (s.count + 1))), (3, .int .i64 x.t), (16, .int .i64 2), (17, .int .i64 s.ta), (18, .int .i64 x.d), (19, .int .i64 (wrap64 (s.count + 1))), (20, .int .i64 (wrap64 (s.count + 1))), (21, .bool false)]) (ch3 s x) :=
  { size := by rw [puts_size]; exact h.size, c0 := (puts_ne (by simp)).trans h.c0, c1 := (puts_ne (by simp)).trans h.c1, c2 := by simp [puts, ch3, h.size], c3 := by simp [puts, ch3, h.size], c4 := (puts_ne (by simp)).trans h.c4, c5 := (puts_ne (by simp)).trans h.c5, c6 := (puts_ne (by simp)).trans h.c6, c7 := (puts_ne (by simp)).trans h.c7, c13 := (puts_ne (by simp)).trans h.c13, c14 := (puts_ne (by simp)).trans h.c14, c15 := (puts_ne (by simp)).trans h.c15, c16 := by simp [puts, ch3, h.size], c17 := by simp [puts, ch3, h.size], c18 := by simp [puts, ch3, h.size], c19 := by simp [puts, ch3, h.size], c20 := by simp [puts, ch3, h.size], c21 := by simp [puts, ch3, h.size], c22 := (puts_ne (by simp)).trans h.c22, c30 := (puts_ne (by simp)).trans h.c30, inp := (h.inp.map fun v => hR v _).other fun q h1 h2 => puts_ne (by simp; omega), res := (h.res.map fun v => hR v _).other fun q h1 h2 => puts_ne (by simp; omega) }
theorem ig4 {R R' : Value → Tv → Prop} {cs : Array Value} {s : Sta} (x : Ev) (h : Ig R cs s) (hR : ∀ v t, R v t → R' v t) : Ig R' (puts cs [(2, .int .i64 (wrap64 (s.count + 1))), (3, .int .i64 x.t), (16, .int .i64 0), (17, .int .i64 0), (18, .int .i64 0), (19, .int .i64 0), (20, .int .i64 0)]) (ch4 s x) :=
  { size := by rw [puts_size]; exact h.size, c0 := (puts_ne (by simp)).trans h.c0, c1 := (puts_ne (by simp)).trans h.c1, c2 := by simp [puts, ch4, h.size], c3 := by simp [puts, ch4, h.size], c4 := (puts_ne (by simp)).trans h.c4, c5 := (puts_ne (by simp)).trans h.c5, c6 := (puts_ne (by simp)).trans h.c6, c7 := (puts_ne (by simp)).trans h.c7, c13 := (puts_ne (by simp)).trans h.c13, c14 := (puts_ne (by simp)).trans h.c14, c15 := (puts_ne (by simp)).trans h.c15, c16 := by simp [puts, ch4, h.size], c17 := by simp [puts, ch4, h.size], c18 := by simp [puts, ch4, h.size], c19 := by simp [puts, ch4, h.size], c20 := by simp [puts, ch4, h.size], c21 := (puts_ne (by simp)).trans h.c21, c22 := (puts_ne (by simp)).trans h.c22, c30 := (puts_ne (by simp)).trans h.c30, inp := (h.inp.map fun v => hR v _).other fun q h1 h2 => puts_ne (by simp; omega), res := (h.res.map fun v => hR v _).other fun q h1 h2 => puts_ne (by simp; omega) }
theorem ig5 {R R' : Value → Tv → Prop} {cs : Array Value} {s : Sta} (x : Ev) (h : Ig R cs s) (hR : ∀ v t, R v t → R' v t) : Ig R' (puts cs [(2, .int .i64 (wrap64 (s.count + 1))), (3, .int .i64 x.t), (16, .int .i64 0), (17, .int .i64 0), (18, .int .i64 0), (19, .int .i64 0), (20, .int .i64 0), (5, .int .i64 x.n)]) (ch5 s x) :=
  { size := by rw [puts_size]; exact h.size, c0 := (puts_ne (by simp)).trans h.c0, c1 := (puts_ne (by simp)).trans h.c1, c2 := by simp [puts, ch5, h.size], c3 := by simp [puts, ch5, h.size], c4 := (puts_ne (by simp)).trans h.c4, c5 := by simp [puts, ch5, h.size], c6 := (puts_ne (by simp)).trans h.c6, c7 := (puts_ne (by simp)).trans h.c7, c13 := (puts_ne (by simp)).trans h.c13, c14 := (puts_ne (by simp)).trans h.c14, c15 := (puts_ne (by simp)).trans h.c15, c16 := by simp [puts, ch5, h.size], c17 := by simp [puts, ch5, h.size], c18 := by simp [puts, ch5, h.size], c19 := by simp [puts, ch5, h.size], c20 := by simp [puts, ch5, h.size], c21 := (puts_ne (by simp)).trans h.c21, c22 := (puts_ne (by simp)).trans h.c22, c30 := (puts_ne (by simp)).trans h.c30, inp := (h.inp.map fun v => hR v _).other fun q h1 h2 => puts_ne (by simp; omega), res := (h.res.map fun v => hR v _).other fun q h1 h2 => puts_ne (by simp; omega) }
theorem ig7 {R R' : Value → Tv → Prop} {cs : Array Value} {s : Sta} (x : Ev) (h : Ig R cs s) (hR : ∀ v t, R v t → R' v t) : Ig R' (puts cs [(2, .int .i64 (wrap64 (s.count + 1))), (3, .int .i64 x.t), (6, .int .i64 (wrap64 (s.sig + 1))), (21, .bool true)]) (ch7 s x) :=
  { size := by rw [puts_size]; exact h.size, c0 := (puts_ne (by simp)).trans h.c0, c1 := (puts_ne (by simp)).trans h.c1, c2 := by simp [puts, ch7, h.size], c3 := by simp [puts, ch7, h.size], c4 := (puts_ne (by simp)).trans h.c4, c5 := (puts_ne (by simp)).trans h.c5, c6 := by simp [puts, ch7, h.size], c7 := (puts_ne (by simp)).trans h.c7, c13 := (puts_ne (by simp)).trans h.c13, c14 := (puts_ne (by simp)).trans h.c14, c15 := (puts_ne (by simp)).trans h.c15, c16 := (puts_ne (by simp)).trans h.c16, c17 := (puts_ne (by simp)).trans h.c17, c18 := (puts_ne (by simp)).trans h.c18, c19 := (puts_ne (by simp)).trans h.c19, c20 := (puts_ne (by simp)).trans h.c20, c21 := by simp [puts, ch7, h.size], c22 := (puts_ne (by simp)).trans h.c22, c30 := (puts_ne (by simp)).trans h.c30, inp := (h.inp.map fun v => hR v _).other fun q h1 h2 => puts_ne (by simp; omega), res := (h.res.map fun v => hR v _).other fun q h1 h2 => puts_ne (by simp; omega) }
theorem ig8 {R R' : Value → Tv → Prop} {cs : Array Value} {s : Sta} (x : Ev) (h : Ig R cs s) (hR : ∀ v t, R v t → R' v t) : Ig R' (puts cs [(2, .int .i64 (wrap64 (s.count + 1))), (3, .int .i64 x.t), (22, .bool true), (21, .bool true)]) (ch8 s x) :=
  { size := by rw [puts_size]; exact h.size, c0 := (puts_ne (by simp)).trans h.c0, c1 := (puts_ne (by simp)).trans h.c1, c2 := by simp [puts, ch8, h.size], c3 := by simp [puts, ch8, h.size], c4 := (puts_ne (by simp)).trans h.c4, c5 := (puts_ne (by simp)).trans h.c5, c6 := (puts_ne (by simp)).trans h.c6, c7 := (puts_ne (by simp)).trans h.c7, c13 := (puts_ne (by simp)).trans h.c13, c14 := (puts_ne (by simp)).trans h.c14, c15 := (puts_ne (by simp)).trans h.c15, c16 := (puts_ne (by simp)).trans h.c16, c17 := (puts_ne (by simp)).trans h.c17, c18 := (puts_ne (by simp)).trans h.c18, c19 := (puts_ne (by simp)).trans h.c19, c20 := (puts_ne (by simp)).trans h.c20, c21 := by simp [puts, ch8, h.size], c22 := by simp [puts, ch8, h.size], c30 := (puts_ne (by simp)).trans h.c30, inp := (h.inp.map fun v => hR v _).other fun q h1 h2 => puts_ne (by simp; omega), res := (h.res.map fun v => hR v _).other fun q h1 h2 => puts_ne (by simp; omega) }
theorem ig9 {R R' : Value → Tv → Prop} {cs : Array Value} {s : Sta} (x : Ev) (v : Value) (h : Ig R cs s) (hR : ∀ v t, R v t → R' v t) : Ig R' (puts cs [(2, .int .i64 (wrap64 (s.count + 1))), (3, .int .i64 x.t), (23, v)]) (ch9 s x) :=
  { size := by rw [puts_size]; exact h.size, c0 := (puts_ne (by simp)).trans h.c0, c1 := (puts_ne (by simp)).trans h.c1, c2 := by simp [puts, ch9, h.size], c3 := by simp [puts, ch9, h.size], c4 := (puts_ne (by simp)).trans h.c4, c5 := (puts_ne (by simp)).trans h.c5, c6 := (puts_ne (by simp)).trans h.c6, c7 := (puts_ne (by simp)).trans h.c7, c13 := (puts_ne (by simp)).trans h.c13, c14 := (puts_ne (by simp)).trans h.c14, c15 := (puts_ne (by simp)).trans h.c15, c16 := (puts_ne (by simp)).trans h.c16, c17 := (puts_ne (by simp)).trans h.c17, c18 := (puts_ne (by simp)).trans h.c18, c19 := (puts_ne (by simp)).trans h.c19, c20 := (puts_ne (by simp)).trans h.c20, c21 := (puts_ne (by simp)).trans h.c21, c22 := (puts_ne (by simp)).trans h.c22, c30 := (puts_ne (by simp)).trans h.c30, inp := (h.inp.map fun v => hR v _).other fun q h1 h2 => puts_ne (by simp; omega), res := (h.res.map fun v => hR v _).other fun q h1 h2 => puts_ne (by simp; omega) }
theorem ig10 {R R' : Value → Tv → Prop} {cs : Array Value} {s : Sta} (x : Ev) (v : Value) (h : Ig R cs s) (hR : ∀ v t, R v t → R' v t) : Ig R' (puts cs [(2, .int .i64 (wrap64 (s.count + 1))), (3, .int .i64 x.t), (23, v), (21, .bool true)]) (ch10 s x) :=
  { size := by rw [puts_size]; exact h.size, c0 := (puts_ne (by simp)).trans h.c0, c1 := (puts_ne (by simp)).trans h.c1, c2 := by simp [puts, ch10, h.size], c3 := by simp [puts, ch10, h.size], c4 := (puts_ne (by simp)).trans h.c4, c5 := (puts_ne (by simp)).trans h.c5, c6 := (puts_ne (by simp)).trans h.c6, c7 := (puts_ne (by simp)).trans h.c7, c13 := (puts_ne (by simp)).trans h.c13, c14 := (puts_ne (by simp)).trans h.c14, c15 := (puts_ne (by simp)).trans h.c15, c16 := (puts_ne (by simp)).trans h.c16, c17 := (puts_ne (by simp)).trans h.c17, c18 := (puts_ne (by simp)).trans h.c18, c19 := (puts_ne (by simp)).trans h.c19, c20 := (puts_ne (by simp)).trans h.c20, c21 := by simp [puts, ch10, h.size], c22 := (puts_ne (by simp)).trans h.c22, c30 := (puts_ne (by simp)).trans h.c30, inp := (h.inp.map fun v => hR v _).other fun q h1 h2 => puts_ne (by simp; omega), res := (h.res.map fun v => hR v _).other fun q h1 h2 => puts_ne (by simp; omega) }
theorem ig11 {R R' : Value → Tv → Prop} {cs : Array Value} {s : Sta} (x : Ev) (v : Value) (h : Ig R cs s) (hR : ∀ v t, R v t → R' v t) : Ig R' (puts cs [(2, .int .i64 (wrap64 (s.count + 1))), (3, .int .i64 x.t), (23, v)]) (ch11 s x) :=
  { size := by rw [puts_size]; exact h.size, c0 := (puts_ne (by simp)).trans h.c0, c1 := (puts_ne (by simp)).trans h.c1, c2 := by simp [puts, ch11, h.size], c3 := by simp [puts, ch11, h.size], c4 := (puts_ne (by simp)).trans h.c4, c5 := (puts_ne (by simp)).trans h.c5, c6 := (puts_ne (by simp)).trans h.c6, c7 := (puts_ne (by simp)).trans h.c7, c13 := (puts_ne (by simp)).trans h.c13, c14 := (puts_ne (by simp)).trans h.c14, c15 := (puts_ne (by simp)).trans h.c15, c16 := (puts_ne (by simp)).trans h.c16, c17 := (puts_ne (by simp)).trans h.c17, c18 := (puts_ne (by simp)).trans h.c18, c19 := (puts_ne (by simp)).trans h.c19, c20 := (puts_ne (by simp)).trans h.c20, c21 := (puts_ne (by simp)).trans h.c21, c22 := (puts_ne (by simp)).trans h.c22, c30 := (puts_ne (by simp)).trans h.c30, inp := (h.inp.map fun v => hR v _).other fun q h1 h2 => puts_ne (by simp; omega), res := (h.res.map fun v => hR v _).other fun q h1 h2 => puts_ne (by simp; omega) }
theorem ig12 {R R' : Value → Tv → Prop} {cs : Array Value} {s : Sta} (x : Ev) (v : Value) (h : Ig R cs s) (hR : ∀ v t, R v t → R' v t) : Ig R' (puts cs [(2, .int .i64 (wrap64 (s.count + 1))), (3, .int .i64 x.t), (24, v)]) (ch12 s x) :=
  { size := by rw [puts_size]; exact h.size, c0 := (puts_ne (by simp)).trans h.c0, c1 := (puts_ne (by simp)).trans h.c1, c2 := by simp [puts, ch12, h.size], c3 := by simp [puts, ch12, h.size], c4 := (puts_ne (by simp)).trans h.c4, c5 := (puts_ne (by simp)).trans h.c5, c6 := (puts_ne (by simp)).trans h.c6, c7 := (puts_ne (by simp)).trans h.c7, c13 := (puts_ne (by simp)).trans h.c13, c14 := (puts_ne (by simp)).trans h.c14, c15 := (puts_ne (by simp)).trans h.c15, c16 := (puts_ne (by simp)).trans h.c16, c17 := (puts_ne (by simp)).trans h.c17, c18 := (puts_ne (by simp)).trans h.c18, c19 := (puts_ne (by simp)).trans h.c19, c20 := (puts_ne (by simp)).trans h.c20, c21 := (puts_ne (by simp)).trans h.c21, c22 := (puts_ne (by simp)).trans h.c22, c30 := (puts_ne (by simp)).trans h.c30, inp := (h.inp.map fun v => hR v _).other fun q h1 h2 => puts_ne (by simp; omega), res := (h.res.map fun v => hR v _).other fun q h1 h2 => puts_ne (by simp; omega) }
theorem ig13 {R R' : Value → Tv → Prop} {cs : Array Value} {s : Sta} (x : Ev) (h : Ig R cs s) (hR : ∀ v t, R v t → R' v t) : Ig R' (puts cs [(2, .int .i64 (wrap64 (s.count + 1))), (3, .int .i64 x.t)]) (ch13 s x) :=
  { size := by rw [puts_size]; exact h.size, c0 := (puts_ne (by simp)).trans h.c0, c1 := (puts_ne (by simp)).trans h.c1, c2 := by simp [puts, ch13, h.size], c3 := by simp [puts, ch13, h.size], c4 := (puts_ne (by simp)).trans h.c4, c5 := (puts_ne (by simp)).trans h.c5, c6 := (puts_ne (by simp)).trans h.c6, c7 := (puts_ne (by simp)).trans h.c7, c13 := (puts_ne (by simp)).trans h.c13, c14 := (puts_ne (by simp)).trans h.c14, c15 := (puts_ne (by simp)).trans h.c15, c16 := (puts_ne (by simp)).trans h.c16, c17 := (puts_ne (by simp)).trans h.c17, c18 := (puts_ne (by simp)).trans h.c18, c19 := (puts_ne (by simp)).trans h.c19, c20 := (puts_ne (by simp)).trans h.c20, c21 := (puts_ne (by simp)).trans h.c21, c22 := (puts_ne (by simp)).trans h.c22, c30 := (puts_ne (by simp)).trans h.c30, inp := (h.inp.map fun v => hR v _).other fun q h1 h2 => puts_ne (by simp; omega), res := (h.res.map fun v => hR v _).other fun q h1 h2 => puts_ne (by simp; omega) }
theorem ig14 {R R' : Value → Tv → Prop} {cs : Array Value} {s : Sta} (x : Ev) (h : Ig R cs s) (hR : ∀ v t, R v t → R' v t) : Ig R' (puts cs [(2, .int .i64 (wrap64 (s.count + 1))), (3, .int .i64 x.t)]) (ch14 s x) :=
  { size := by rw [puts_size]; exact h.size, c0 := (puts_ne (by simp)).trans h.c0, c1 := (puts_ne (by simp)).trans h.c1, c2 := by simp [puts, ch14, h.size], c3 := by simp [puts, ch14, h.size], c4 := (puts_ne (by simp)).trans h.c4, c5 := (puts_ne (by simp)).trans h.c5, c6 := (puts_ne (by simp)).trans h.c6, c7 := (puts_ne (by simp)).trans h.c7, c13 := (puts_ne (by simp)).trans h.c13, c14 := (puts_ne (by simp)).trans h.c14, c15 := (puts_ne (by simp)).trans h.c15, c16 := (puts_ne (by simp)).trans h.c16, c17 := (puts_ne (by simp)).trans h.c17, c18 := (puts_ne (by simp)).trans h.c18, c19 := (puts_ne (by simp)).trans h.c19, c20 := (puts_ne (by simp)).trans h.c20, c21 := (puts_ne (by simp)).trans h.c21, c22 := (puts_ne (by simp)).trans h.c22, c30 := (puts_ne (by simp)).trans h.c30, inp := (h.inp.map fun v => hR v _).other fun q h1 h2 => puts_ne (by simp; omega), res := (h.res.map fun v => hR v _).other fun q h1 h2 => puts_ne (by simp; omega) }
theorem ig15 {R R' : Value → Tv → Prop} {cs : Array Value} {s : Sta} (x : Ev) {k0 x0 b0 : Int} {s0 : ByteArray} {a0 : Option Addr} {m0 n0 : Nat} (hv : R' (.agg #[.int .i64 k0, .int .i64 x0, .int .u64 b0, .string s0, .slice a0 m0 n0]) x.v) (h : Ig R cs s) (hR : ∀ v t, R v t → R' v t) : Ig R' (puts cs [(2, .int .i64 (wrap64 (s.count + 1))), (3, .int .i64 x.t), (16, .int .i64 0), (17, .int .i64 0), (18, .int .i64 0), (19, .int .i64 0), (20, .int .i64 0), (23, .slice none 0 0), (1, .int .i64 2), (25, .int .i64 k0), (26, .int .i64 x0), (27, .int .u64 b0), (28, .string s0), (29, .slice a0 m0 n0)]) (ch15 s x) :=
  { size := by rw [puts_size]; exact h.size, c0 := (puts_ne (by simp)).trans h.c0, c1 := by simp [puts, ch15, h.size], c2 := by simp [puts, ch15, h.size], c3 := by simp [puts, ch15, h.size], c4 := (puts_ne (by simp)).trans h.c4, c5 := (puts_ne (by simp)).trans h.c5, c6 := (puts_ne (by simp)).trans h.c6, c7 := (puts_ne (by simp)).trans h.c7, c13 := (puts_ne (by simp)).trans h.c13, c14 := (puts_ne (by simp)).trans h.c14, c15 := (puts_ne (by simp)).trans h.c15, c16 := by simp [puts, ch15, h.size], c17 := by simp [puts, ch15, h.size], c18 := by simp [puts, ch15, h.size], c19 := by simp [puts, ch15, h.size], c20 := by simp [puts, ch15, h.size], c21 := (puts_ne (by simp)).trans h.c21, c22 := (puts_ne (by simp)).trans h.c22, c30 := (puts_ne (by simp)).trans h.c30, inp := (h.inp.map fun v => hR v _).other fun q h1 h2 => puts_ne (by simp; omega), res := ⟨k0, x0, b0, s0, a0, m0, n0, by simp [puts, h.size], by simp [puts, h.size], by simp [puts, h.size], by simp [puts, h.size], by simp [puts, h.size], hv⟩ }
theorem ig16 {R R' : Value → Tv → Prop} {cs : Array Value} {s : Sta} (x : Ev) (h : Ig R cs s) (hR : ∀ v t, R v t → R' v t) : Ig R' (puts cs [(2, .int .i64 (wrap64 (s.count + 1))), (3, .int .i64 x.t), (16, .int .i64 0), (17, .int .i64 0), (18, .int .i64 0), (19, .int .i64 0), (20, .int .i64 0), (23, .slice none 0 0), (1, .int .i64 3), (30, .string x.s)]) (ch16 s x) :=
  { size := by rw [puts_size]; exact h.size, c0 := (puts_ne (by simp)).trans h.c0, c1 := by simp [puts, ch16, h.size], c2 := by simp [puts, ch16, h.size], c3 := by simp [puts, ch16, h.size], c4 := (puts_ne (by simp)).trans h.c4, c5 := (puts_ne (by simp)).trans h.c5, c6 := (puts_ne (by simp)).trans h.c6, c7 := (puts_ne (by simp)).trans h.c7, c13 := (puts_ne (by simp)).trans h.c13, c14 := (puts_ne (by simp)).trans h.c14, c15 := (puts_ne (by simp)).trans h.c15, c16 := by simp [puts, ch16, h.size], c17 := by simp [puts, ch16, h.size], c18 := by simp [puts, ch16, h.size], c19 := by simp [puts, ch16, h.size], c20 := by simp [puts, ch16, h.size], c21 := (puts_ne (by simp)).trans h.c21, c22 := (puts_ne (by simp)).trans h.c22, c30 := by simp [puts, ch16, h.size], inp := (h.inp.map fun v => hR v _).other fun q h1 h2 => puts_ne (by simp; omega), res := (h.res.map fun v => hR v _).other fun q h1 h2 => puts_ne (by simp; omega) }
theorem ig17 {R R' : Value → Tv → Prop} {cs : Array Value} {s : Sta} (x : Ev) (h : Ig R cs s) (hR : ∀ v t, R v t → R' v t) : Ig R' (puts cs [(2, .int .i64 (wrap64 (s.count + 1))), (3, .int .i64 x.t), (16, .int .i64 0), (17, .int .i64 0), (18, .int .i64 0), (19, .int .i64 0), (20, .int .i64 0), (23, .slice none 0 0), (1, .int .i64 4)]) (ch17 s x) :=
  { size := by rw [puts_size]; exact h.size, c0 := (puts_ne (by simp)).trans h.c0, c1 := by simp [puts, ch17, h.size], c2 := by simp [puts, ch17, h.size], c3 := by simp [puts, ch17, h.size], c4 := (puts_ne (by simp)).trans h.c4, c5 := (puts_ne (by simp)).trans h.c5, c6 := (puts_ne (by simp)).trans h.c6, c7 := (puts_ne (by simp)).trans h.c7, c13 := (puts_ne (by simp)).trans h.c13, c14 := (puts_ne (by simp)).trans h.c14, c15 := (puts_ne (by simp)).trans h.c15, c16 := by simp [puts, ch17, h.size], c17 := by simp [puts, ch17, h.size], c18 := by simp [puts, ch17, h.size], c19 := by simp [puts, ch17, h.size], c20 := by simp [puts, ch17, h.size], c21 := (puts_ne (by simp)).trans h.c21, c22 := (puts_ne (by simp)).trans h.c22, c30 := (puts_ne (by simp)).trans h.c30, inp := (h.inp.map fun v => hR v _).other fun q h1 h2 => puts_ne (by simp; omega), res := (h.res.map fun v => hR v _).other fun q h1 h2 => puts_ne (by simp; omega) }
theorem ig18 {R R' : Value → Tv → Prop} {cs : Array Value} {s : Sta} (x : Ev) (h : Ig R cs s) (hR : ∀ v t, R v t → R' v t) : Ig R' (puts cs [(2, .int .i64 (wrap64 (s.count + 1))), (3, .int .i64 x.t), (16, .int .i64 0), (17, .int .i64 0), (18, .int .i64 0), (19, .int .i64 0), (20, .int .i64 0), (23, .slice none 0 0), (1, .int .i64 5), (30, .string x.s)]) (ch18 s x) :=
  { size := by rw [puts_size]; exact h.size, c0 := (puts_ne (by simp)).trans h.c0, c1 := by simp [puts, ch18, h.size], c2 := by simp [puts, ch18, h.size], c3 := by simp [puts, ch18, h.size], c4 := (puts_ne (by simp)).trans h.c4, c5 := (puts_ne (by simp)).trans h.c5, c6 := (puts_ne (by simp)).trans h.c6, c7 := (puts_ne (by simp)).trans h.c7, c13 := (puts_ne (by simp)).trans h.c13, c14 := (puts_ne (by simp)).trans h.c14, c15 := (puts_ne (by simp)).trans h.c15, c16 := by simp [puts, ch18, h.size], c17 := by simp [puts, ch18, h.size], c18 := by simp [puts, ch18, h.size], c19 := by simp [puts, ch18, h.size], c20 := by simp [puts, ch18, h.size], c21 := (puts_ne (by simp)).trans h.c21, c22 := (puts_ne (by simp)).trans h.c22, c30 := by simp [puts, ch18, h.size], inp := (h.inp.map fun v => hR v _).other fun q h1 h2 => puts_ne (by simp; omega), res := (h.res.map fun v => hR v _).other fun q h1 h2 => puts_ne (by simp; omega) }
theorem ig19 {R R' : Value → Tv → Prop} {cs : Array Value} {s : Sta} (x : Ev) (h : Ig R cs s) (hR : ∀ v t, R v t → R' v t) : Ig R' (puts cs [(2, .int .i64 (wrap64 (s.count + 1))), (3, .int .i64 x.t), (16, .int .i64 0), (17, .int .i64 0), (18, .int .i64 0), (19, .int .i64 0), (20, .int .i64 0), (23, .slice none 0 0), (1, .int .i64 6)]) (ch19 s x) :=
  { size := by rw [puts_size]; exact h.size, c0 := (puts_ne (by simp)).trans h.c0, c1 := by simp [puts, ch19, h.size], c2 := by simp [puts, ch19, h.size], c3 := by simp [puts, ch19, h.size], c4 := (puts_ne (by simp)).trans h.c4, c5 := (puts_ne (by simp)).trans h.c5, c6 := (puts_ne (by simp)).trans h.c6, c7 := (puts_ne (by simp)).trans h.c7, c13 := (puts_ne (by simp)).trans h.c13, c14 := (puts_ne (by simp)).trans h.c14, c15 := (puts_ne (by simp)).trans h.c15, c16 := by simp [puts, ch19, h.size], c17 := by simp [puts, ch19, h.size], c18 := by simp [puts, ch19, h.size], c19 := by simp [puts, ch19, h.size], c20 := by simp [puts, ch19, h.size], c21 := (puts_ne (by simp)).trans h.c21, c22 := (puts_ne (by simp)).trans h.c22, c30 := (puts_ne (by simp)).trans h.c30, inp := (h.inp.map fun v => hR v _).other fun q h1 h2 => puts_ne (by simp; omega), res := (h.res.map fun v => hR v _).other fun q h1 h2 => puts_ne (by simp; omega) }
end Go.Proofs.YthphgkaifnacbaaGreat
namespace Go.Proofs.YthphgkaifnacbaaGreat
open Go.ChangeShapes Go.WideShapes Go.ChangeAt Go.RowKit
theorem vk_to {lo B n : Nat} {w w' : World} {cs cs' : Array Value} (hkeep : ∀ b, b < w.heap.size → b ≠ B → Nb cs b → w'.heap[b]? = w.heap[b]?) (hnb : ∀ b, b < w.heap.size → Nb cs b → Nb cs' b) :
    ∀ v t, IsP (Vk (fun b => b ≠ B) lo w cs) w n v t → IsP (Vk (fun b => b ≠ B) lo w' cs') w' n v t := fun _ _ hv =>
  hv.keep (fun b hb hk => ⟨hk.1, free_keep (hkeep b hb hk.1 hk.2.2) hk.2.1, hnb b hb hk.2.2⟩) (fun b hb hk => hkeep b hb hk.1 hk.2.2)
theorem own_ne {w : World} {lo lo' k k' n n' : Nat} {t t' : TypeId} {u u' : Value} {xs xs' : List Value} (h : w.ownsRow lo t k u n xs) (h' : w.ownsRow lo' t' k' u' n' xs') (ht : t ≠ t') {b : Nat} (hb : u.ownBlock = some b) : u'.ownBlock ≠ some b := fun e => by
  obtain ⟨_, ⟨rfl, _⟩ | ⟨g, cap, cur, rfl, _, hg, _⟩⟩ := h
  · cases hb
  · obtain ⟨_, ⟨rfl, _⟩ | ⟨g', cap', cur', rfl, _, hg', _⟩⟩ := h'
    · cases e
    · cases hb
      cases e
      rw [hg] at hg'
      cases hg'
      exact ht rfl
section
variable {lo B n : Nat} {w w' : World} {cs cs' : Array Value} {s s' : Sta}
theorem og_same (h : Og (fun b => b ≠ B) lo w n cs s) (hg : w.heap[B]? = some (.cells cs 33 (0, 0))) (hk : KB B w w') (e23 : cs'[23]? = cs[23]?) (e24 : cs'[24]? = cs[24]?)
    (hi : (∀ v t, IsP (Vk (fun b => b ≠ B) lo w cs) w n v t → IsP (Vk (fun b => b ≠ B) lo w' cs') w' n v t) → Ig (IsP (Vk (fun b => b ≠ B) lo w' cs') w' n) cs' s') (ht : s'.tm = s.tm) (hu : s'.up = s.up) : Og (fun b => b ≠ B) lo w' n cs' s' := by
  have hR := vk_to (lo := lo) (B := B) (n := n) (w := w) (w' := w') (cs := cs) (cs' := cs') (fun b hb hne _ => ne_blk hk hb hne) (fun b _ hn v hv => hn v (by rw [e23, e24] at hv; exact hv))
  obtain ⟨a, c, t1, t2⟩ := h.tm
  obtain ⟨ua, uc, us, u1, u2, u3, u4⟩ := h.up
  refine ⟨hi hR, ⟨a, c, by rw [e23, ht]; exact t1, ?_⟩, ⟨ua, uc, us, by rw [e24, hu]; exact u1, ?_, by rw [hu]; exact u3, fun i r u hr hu' => (u4 i r u hr (by rw [hu] at hu'; exact hu')).map hR⟩⟩
  · rw [ht]
    exact owns_blk t2 (Nat.le_refl _) fun b hb => ne_blk hk (t2.lt b hb).2 (fun e => box_ne t2 (by decide) hg (by rw [← e]; exact hb))
  · rw [hu]
    exact owns_blk u2 (Nat.le_refl _) fun b hb => ne_blk hk (u2.lt b hb).2 (fun e => box_ne u2 (by decide) hg (by rw [← e]; exact hb))
theorem og_end (h : Og (fun b => b ≠ B) lo w n cs s) (hg : w.heap[B]? = some (.cells cs 33 (0, 0))) (hk : KB B w w') (e23 : cs'[23]? = some (.slice none 0 0)) (e24 : cs'[24]? = cs[24]?)
    (hi : (∀ v t, IsP (Vk (fun b => b ≠ B) lo w cs) w n v t → IsP (Vk (fun b => b ≠ B) lo w' cs') w' n v t) → Ig (IsP (Vk (fun b => b ≠ B) lo w' cs') w' n) cs' s') (ht : s'.tm = []) (hu : s'.up = s.up) : Og (fun b => b ≠ B) lo w' n cs' s' := by
  have hR := vk_to (lo := lo) (B := B) (n := n) (w := w) (w' := w') (cs := cs) (cs' := cs') (fun b hb hne _ => ne_blk hk hb hne) (fun b _ hn v hv => by
    rcases hv with hv | hv
    · rw [e23] at hv; cases hv; exact fun e => by cases e
    · rw [e24] at hv; exact hn v (.inr hv))
  obtain ⟨ua, uc, us, u1, u2, u3, u4⟩ := h.up
  refine ⟨hi hR, ⟨none, 0, by rw [e23, ht]; rfl, ?_⟩, ⟨ua, uc, us, by rw [e24, hu]; exact u1, ?_, by rw [hu]; exact u3, fun i r u hr hu' => (u4 i r u hr (by rw [hu] at hu'; exact hu')).map hR⟩⟩
  · rw [ht]
    exact World.ownsRow_nil _ _ _ _
  · rw [hu]
    exact owns_blk u2 (Nat.le_refl _) fun b hb => ne_blk hk (u2.lt b hb).2 (fun e => box_ne u2 (by decide) hg (by rw [← e]; exact hb))
theorem og_tm {u v : Value} (h : Og (fun b => b ≠ B) lo w n cs s) (hg : w.heap[B]? = some (.cells cs 33 (0, 0))) (c23 : cs[23]? = some u) (hl : Lw lo B 56 2 u (s'.tm.map Tm.cells) w v w') (e23 : cs'[23]? = some v) (e24 : cs'[24]? = cs[24]?)
    (hi : (∀ v t, IsP (Vk (fun b => b ≠ B) lo w cs) w n v t → IsP (Vk (fun b => b ≠ B) lo w' cs') w' n v t) → Ig (IsP (Vk (fun b => b ≠ B) lo w' cs') w' n) cs' s') (hu : s'.up = s.up) : Og (fun b => b ≠ B) lo w' n cs' s' := by
  have hR := vk_to (lo := lo) (B := B) (n := n) (w := w) (w' := w') (cs := cs) (cs' := cs') (fun b hb hne hn => hl.keep b hb hne (hn u (.inl c23))) (fun b hb hn v' hv => by
    rcases hv with hv | hv
    · rw [e23] at hv; cases hv
      rcases hl.blk with e | e
      · rw [e]; exact hn u (.inl c23)
      · intro e'
        have := e b e'
        omega
    · rw [e24] at hv; exact hn v' (.inr hv))
  obtain ⟨a, c, t1, t2⟩ := h.tm
  obtain ⟨ua, uc, us, u1, u2, u3, u4⟩ := h.up
  rw [c23] at t1
  cases t1
  have hO := hl.own
  rw [List.length_map] at hO
  obtain ⟨a', c', rfl⟩ := owns_shape hO
  refine ⟨hi hR, ⟨a', c', e23, hO⟩, ⟨ua, uc, us, by rw [e24, hu]; exact u1, ?_, by rw [hu]; exact u3, fun i r u hr hu' => (u4 i r u hr (by rw [hu] at hu'; exact hu')).map hR⟩⟩
  rw [hu]
  exact owns_blk u2 (Nat.le_refl _) fun b hb => hl.keep b (u2.lt b hb).2 (fun e => box_ne u2 (by decide) hg (by rw [← e]; exact hb)) (own_ne u2 t2 (by decide) hb)
theorem og_up {u v : Value} {rows : List (Array Value)} (h : Og (fun b => b ≠ B) lo w n cs s) (hg : w.heap[B]? = some (.cells cs 33 (0, 0))) (c24 : cs[24]? = some u) (hl : Lw lo B 37 12 u rows w v w') (hrl : rows.length = s'.up.length) (e23 : cs'[23]? = cs[23]?) (e24 : cs'[24]? = some v)
    (hi : (∀ v t, IsP (Vk (fun b => b ≠ B) lo w cs) w n v t → IsP (Vk (fun b => b ≠ B) lo w' cs') w' n v t) → Ig (IsP (Vk (fun b => b ≠ B) lo w' cs') w' n) cs' s') (ht : s'.tm = s.tm)
    (hr : (∀ v t, IsP (Vk (fun b => b ≠ B) lo w cs) w n v t → IsP (Vk (fun b => b ≠ B) lo w' cs') w' n v t) → ∀ (i : Nat) r u, rows[i]? = some r → s'.up[i]? = some u → IsU (IsP (Vk (fun b => b ≠ B) lo w' cs') w' n) r u) : Og (fun b => b ≠ B) lo w' n cs' s' := by
  have hR := vk_to (lo := lo) (B := B) (n := n) (w := w) (w' := w') (cs := cs) (cs' := cs') (fun b hb hne hn => hl.keep b hb hne (hn u (.inr c24))) (fun b hb hn v' hv => by
    rcases hv with hv | hv
    · rw [e23] at hv; exact hn v' (.inl hv)
    · rw [e24] at hv; cases hv
      rcases hl.blk with e | e
      · rw [e]; exact hn u (.inr c24)
      · intro e'
        have := e b e'
        omega)
  obtain ⟨a, c, t1, t2⟩ := h.tm
  obtain ⟨ua, uc, us, u1, u2, _, _⟩ := h.up
  rw [c24] at u1
  cases u1
  have hO := hl.own
  rw [hrl] at hO
  obtain ⟨a', c', rfl⟩ := owns_shape hO
  refine ⟨hi hR, ⟨a, c, by rw [e23, ht]; exact t1, ?_⟩, ⟨a', c', rows, e24, hO, hrl, hr hR⟩⟩
  rw [ht]
  exact owns_blk t2 (Nat.le_refl _) fun b hb => hl.keep b (t2.lt b hb).2 (fun e => box_ne t2 (by decide) hg (by rw [← e]; exact hb)) (own_ne t2 u2 (by decide) hb)
end
/-- What change answers. -/
def ChP (lo B n : Nat) (s' : Sta) (w : World) (e : Ending) (w' : World) : Prop :=
  e = .returned (.tuple #[]) ∧ ∃ cs', w'.heap[B]? = some (.cells cs' 33 (0, 0)) ∧ Og (fun b => b ≠ B) lo w' n cs' s' ∧ Below lo w w'
theorem chP1 (lo B n : Nat) (cs es : Array Value) (s : Sta) (x : Ev) (w : World) (hg : w.heap[B]? = some (.cells cs 33 (0, 0))) (h : Og (fun b => b ≠ B) lo w (n + 1) cs s) (he : IsEv (IsP (Vk (fun b => b ≠ B) lo w cs) w (n + 1)) es x) (hlo : lo ≤ B) (hk : x.k = 1) :
    Calls Tryz.prog 42 #[.pointer (some ⟨B, 0, none⟩), .agg es] w (ChP lo B (n + 1) (ch1 s x) w) := by
  have hBl : B < w.heap.size := (Array.getElem?_eq_some_iff.1 hg).1
  have hlw : lo ≤ w.heap.size := by omega
  have i := h.ig
  have e0 := he.c0
  rw [hk] at e0
  obtain ⟨k0, x0, b0, s0, a0, m0, n0, v5, v6, v7, v8, v9, hv⟩ := he.v
  obtain ⟨k1, x1, b1, s1, a1, l1, n1, d8, d9, d10, d11, d12, _⟩ := i.inp
  refine (chg1 B cs es s.count s.time x.t s.status s.dl x.d x.f s.pf x.m s.pm x.c s.pc s.fresh s.typ x.s k0 x0 b0 s0 a0 m0 n0 k1 x1 b1 s1 a1 l1 n1 w hg i.c1 i.c2 i.c3 i.c4 i.c7 d8 d9 d10 d11 d12 i.c13 i.c14 i.c15 i.c21 e0 he.c1 he.c3 he.c4 v5 v6 v7 v8 v9 he.c10 he.c11 he.c12).mono ?_
  rintro e w' ⟨rfl, hw⟩
  exact ⟨rfl, _, hw.row, og_same h hg hw.kb (puts_ne (by simp)) (puts_ne (by simp)) (fun hR => ig1 x (hR _ _ hv) h.ig hR) rfl rfl, hw.kb.below hlo hlw⟩
theorem chP7 (lo B n : Nat) (cs es : Array Value) (s : Sta) (x : Ev) (w : World) (hg : w.heap[B]? = some (.cells cs 33 (0, 0))) (h : Og (fun b => b ≠ B) lo w (n + 1) cs s) (he : IsEv (IsP (Vk (fun b => b ≠ B) lo w cs) w (n + 1)) es x) (hlo : lo ≤ B) (hk : x.k = 7) :
    Calls Tryz.prog 42 #[.pointer (some ⟨B, 0, none⟩), .agg es] w (ChP lo B (n + 1) (ch7 s x) w) := by
  have hBl : B < w.heap.size := (Array.getElem?_eq_some_iff.1 hg).1
  have hlw : lo ≤ w.heap.size := by omega
  have i := h.ig
  have e0 := he.c0
  rw [hk] at e0
  refine (chg7 B cs es s.count s.time x.t s.sig s.fresh w hg i.c2 i.c3 i.c6 i.c21 e0 he.c1).mono ?_
  rintro e w' ⟨rfl, hw⟩
  exact ⟨rfl, _, hw.row, og_same h hg hw.kb (puts_ne (by simp)) (puts_ne (by simp)) (fun hR => ig7 x h.ig hR) rfl rfl, hw.kb.below hlo hlw⟩
theorem chP8 (lo B n : Nat) (cs es : Array Value) (s : Sta) (x : Ev) (w : World) (hg : w.heap[B]? = some (.cells cs 33 (0, 0))) (h : Og (fun b => b ≠ B) lo w (n + 1) cs s) (he : IsEv (IsP (Vk (fun b => b ≠ B) lo w cs) w (n + 1)) es x) (hlo : lo ≤ B) (hk : x.k = 8) :
    Calls Tryz.prog 42 #[.pointer (some ⟨B, 0, none⟩), .agg es] w (ChP lo B (n + 1) (ch8 s x) w) := by
  have hBl : B < w.heap.size := (Array.getElem?_eq_some_iff.1 hg).1
  have hlw : lo ≤ w.heap.size := by omega
  have i := h.ig
  have e0 := he.c0
  rw [hk] at e0
  refine (chg8 B cs es s.count s.time x.t s.fresh s.cancel w hg i.c2 i.c3 i.c21 i.c22 e0 he.c1).mono ?_
  rintro e w' ⟨rfl, hw⟩
  exact ⟨rfl, _, hw.row, og_same h hg hw.kb (puts_ne (by simp)) (puts_ne (by simp)) (fun hR => ig8 x h.ig hR) rfl rfl, hw.kb.below hlo hlw⟩
theorem chP14 (lo B n : Nat) (cs es : Array Value) (s : Sta) (x : Ev) (w : World) (hg : w.heap[B]? = some (.cells cs 33 (0, 0))) (h : Og (fun b => b ≠ B) lo w (n + 1) cs s) (he : IsEv (IsP (Vk (fun b => b ≠ B) lo w cs) w (n + 1)) es x) (hlo : lo ≤ B) (hk : x.k = 14) :
    Calls Tryz.prog 42 #[.pointer (some ⟨B, 0, none⟩), .agg es] w (ChP lo B (n + 1) (ch14 s x) w) := by
  have hBl : B < w.heap.size := (Array.getElem?_eq_some_iff.1 hg).1
  have hlw : lo ≤ w.heap.size := by omega
  have i := h.ig
  have e0 := he.c0
  rw [hk] at e0
  refine (chg14 B cs es s.count s.time x.t w hg i.c2 i.c3 e0 he.c1).mono ?_
  rintro e w' ⟨rfl, hw⟩
  exact ⟨rfl, _, hw.row, og_same h hg hw.kb (puts_ne (by simp)) (puts_ne (by simp)) (fun hR => ig14 x h.ig hR) rfl rfl, hw.kb.below hlo hlw⟩
theorem chP2 (lo B n : Nat) (cs es : Array Value) (s : Sta) (x : Ev) (w : World) (hg : w.heap[B]? = some (.cells cs 33 (0, 0))) (h : Og (fun b => b ≠ B) lo w (n + 1) cs s) (he : IsEv (IsP (Vk (fun b => b ≠ B) lo w cs) w (n + 1)) es x) (hlo : lo ≤ B) (hk : x.k = 2) :
    Calls Tryz.prog 42 #[.pointer (some ⟨B, 0, none⟩), .agg es] w (ChP lo B (n + 1) (ch2 s x) w) := by
  have hBl : B < w.heap.size := (Array.getElem?_eq_some_iff.1 hg).1
  have hlw : lo ≤ w.heap.size := by omega
  have i := h.ig
  have e0 := he.c0
  rw [hk] at e0
  have o1 : ∀ q, q ≠ 2 → q ≠ 3 → (cs1 cs s.count x.t)[q]? = cs[q]? := fun q h2 h3 => puts_ne (by simp; omega)
  have d2 : (cs1 cs s.count x.t)[2]? = some (.int .i64 (wrap64 (s.count + 1))) := by simp [cs1, puts, i.size]
  have f := fun q v (h2 : q ≠ 2) (h3 : q ≠ 3) (hq : cs[q]? = some v) => (o1 q h2 h3).trans hq
  refine chgC2 B cs es s.count s.time x.t w (PuP B (cs1 cs s.count x.t) [(16, .int .i64 1), (17, .int .i64 x.n), (18, .int .i64 x.d), (19, .int .i64 0), (20, .int .i64 0)]) _ hg i.c2 i.c3 he.size e0 he.c1 (fun W hw => task2 B _ es _ _ _ _ _ x.n x.d W hw.row (f 16 _ (by decide) (by decide) i.c16) (f 17 _ (by decide) (by decide) i.c17) (f 18 _ (by decide) (by decide) i.c18) (f 19 _ (by decide) (by decide) i.c19) (f 20 _ (by decide) (by decide) i.c20) he.c2 he.c3 e0) (fun W e W' hw0 h1 => ?_)
  obtain ⟨rfl, hw⟩ := h1
  have hrow := hw.row
  rw [cs1, ← puts_app] at hrow
  exact ⟨rfl, rfl, _, hrow, og_same h hg (hw0.kb.trans hw.kb) (puts_ne (by simp)) (puts_ne (by simp)) (fun hR => ig2 x h.ig hR) rfl rfl, (hw0.kb.trans hw.kb).below hlo hlw⟩
theorem chP3 (lo B n : Nat) (cs es : Array Value) (s : Sta) (x : Ev) (w : World) (hg : w.heap[B]? = some (.cells cs 33 (0, 0))) (h : Og (fun b => b ≠ B) lo w (n + 1) cs s) (he : IsEv (IsP (Vk (fun b => b ≠ B) lo w cs) w (n + 1)) es x) (hlo : lo ≤ B) (hk : x.k = 3) :
    Calls Tryz.prog 42 #[.pointer (some ⟨B, 0, none⟩), .agg es] w (ChP lo B (n + 1) (ch3 s x) w) := by
  have hBl : B < w.heap.size := (Array.getElem?_eq_some_iff.1 hg).1
  have hlw : lo ≤ w.heap.size := by omega
  have i := h.ig
  have e0 := he.c0
  rw [hk] at e0
  have o1 : ∀ q, q ≠ 2 → q ≠ 3 → (cs1 cs s.count x.t)[q]? = cs[q]? := fun q h2 h3 => puts_ne (by simp; omega)
  have d2 : (cs1 cs s.count x.t)[2]? = some (.int .i64 (wrap64 (s.count + 1))) := by simp [cs1, puts, i.size]
  have f := fun q v (h2 : q ≠ 2) (h3 : q ≠ 3) (hq : cs[q]? = some v) => (o1 q h2 h3).trans hq
  refine chgC3 B cs es s.count s.time x.t w (PuP B (cs1 cs s.count x.t) [(16, .int .i64 2), (17, .int .i64 s.ta), (18, .int .i64 x.d), (19, .int .i64 (wrap64 (s.count + 1))), (20, .int .i64 (wrap64 (s.count + 1))), (21, .bool false)]) _ hg i.c2 i.c3 he.size e0 he.c1 (fun W hw => task3 B _ es _ _ _ _ _ x.d _ _ W hw.row (f 16 _ (by decide) (by decide) i.c16) (f 17 _ (by decide) (by decide) i.c17) (f 18 _ (by decide) (by decide) i.c18) (f 19 _ (by decide) (by decide) i.c19) (f 20 _ (by decide) (by decide) i.c20) d2 (f 21 _ (by decide) (by decide) i.c21) he.c3 e0) (fun W e W' hw0 h1 => ?_)
  obtain ⟨rfl, hw⟩ := h1
  have hrow := hw.row
  rw [cs1, ← puts_app] at hrow
  exact ⟨rfl, rfl, _, hrow, og_same h hg (hw0.kb.trans hw.kb) (puts_ne (by simp)) (puts_ne (by simp)) (fun hR => ig3 x h.ig hR) rfl rfl, (hw0.kb.trans hw.kb).below hlo hlw⟩
theorem chP4a (lo B n : Nat) (cs es : Array Value) (s : Sta) (x : Ev) (w : World) (hg : w.heap[B]? = some (.cells cs 33 (0, 0))) (h : Og (fun b => b ≠ B) lo w (n + 1) cs s) (he : IsEv (IsP (Vk (fun b => b ≠ B) lo w cs) w (n + 1)) es x) (hlo : lo ≤ B) (hk : x.k = 4) (hn : ¬ 0 < x.n) :
    Calls Tryz.prog 42 #[.pointer (some ⟨B, 0, none⟩), .agg es] w (ChP lo B (n + 1) (ch4 s x) w) := by
  have hBl : B < w.heap.size := (Array.getElem?_eq_some_iff.1 hg).1
  have hlw : lo ≤ w.heap.size := by omega
  have i := h.ig
  have e0 := he.c0
  rw [hk] at e0
  have o1 : ∀ q, q ≠ 2 → q ≠ 3 → (cs1 cs s.count x.t)[q]? = cs[q]? := fun q h2 h3 => puts_ne (by simp; omega)
  have d2 : (cs1 cs s.count x.t)[2]? = some (.int .i64 (wrap64 (s.count + 1))) := by simp [cs1, puts, i.size]
  have f := fun q v (h2 : q ≠ 2) (h3 : q ≠ 3) (hq : cs[q]? = some v) => (o1 q h2 h3).trans hq
  refine chgC4 B cs es s.count s.time x.t w (PuP B (cs1 cs s.count x.t) [(16, .int .i64 0), (17, .int .i64 0), (18, .int .i64 0), (19, .int .i64 0), (20, .int .i64 0)]) _ hg i.c2 i.c3 he.size e0 he.c1 (fun W hw => taskEnd B _ es 4 _ _ _ _ _ x.n W hw.row (by decide) (by decide) (f 16 _ (by decide) (by decide) i.c16) (f 17 _ (by decide) (by decide) i.c17) (f 18 _ (by decide) (by decide) i.c18) (f 19 _ (by decide) (by decide) i.c19) (f 20 _ (by decide) (by decide) i.c20) he.c2 hn e0) (fun W e W' hw0 h1 => ?_)
  obtain ⟨rfl, hw⟩ := h1
  have hrow := hw.row
  rw [cs1, ← puts_app] at hrow
  exact ⟨rfl, rfl, _, hrow, og_same h hg (hw0.kb.trans hw.kb) (puts_ne (by simp)) (puts_ne (by simp)) (fun hR => ig4 x h.ig hR) rfl rfl, (hw0.kb.trans hw.kb).below hlo hlw⟩
theorem chP4b (lo B n : Nat) (cs es : Array Value) (s : Sta) (x : Ev) (w : World) (hg : w.heap[B]? = some (.cells cs 33 (0, 0))) (h : Og (fun b => b ≠ B) lo w (n + 1) cs s) (he : IsEv (IsP (Vk (fun b => b ≠ B) lo w cs) w (n + 1)) es x) (hlo : lo ≤ B) (hk : x.k = 4) (hn : 0 < x.n) :
    Calls Tryz.prog 42 #[.pointer (some ⟨B, 0, none⟩), .agg es] w (ChP lo B (n + 1) (ch5 s x) w) := by
  have hBl : B < w.heap.size := (Array.getElem?_eq_some_iff.1 hg).1
  have hlw : lo ≤ w.heap.size := by omega
  have i := h.ig
  have e0 := he.c0
  rw [hk] at e0
  have o1 : ∀ q, q ≠ 2 → q ≠ 3 → (cs1 cs s.count x.t)[q]? = cs[q]? := fun q h2 h3 => puts_ne (by simp; omega)
  have d2 : (cs1 cs s.count x.t)[2]? = some (.int .i64 (wrap64 (s.count + 1))) := by simp [cs1, puts, i.size]
  have f := fun q v (h2 : q ≠ 2) (h3 : q ≠ 3) (hq : cs[q]? = some v) => (o1 q h2 h3).trans hq
  refine chgC4 B cs es s.count s.time x.t w (PuP B (cs1 cs s.count x.t) [(16, .int .i64 0), (17, .int .i64 0), (18, .int .i64 0), (19, .int .i64 0), (20, .int .i64 0), (5, .int .i64 x.n)]) _ hg i.c2 i.c3 he.size e0 he.c1 (fun W hw => taskFrom B _ es 4 _ _ _ _ _ x.n _ W hw.row (by decide) (by decide) (f 16 _ (by decide) (by decide) i.c16) (f 17 _ (by decide) (by decide) i.c17) (f 18 _ (by decide) (by decide) i.c18) (f 19 _ (by decide) (by decide) i.c19) (f 20 _ (by decide) (by decide) i.c20) (f 5 _ (by decide) (by decide) i.c5) he.c2 hn e0) (fun W e W' hw0 h1 => ?_)
  obtain ⟨rfl, hw⟩ := h1
  have hrow := hw.row
  rw [cs1, ← puts_app] at hrow
  exact ⟨rfl, rfl, _, hrow, og_same h hg (hw0.kb.trans hw.kb) (puts_ne (by simp)) (puts_ne (by simp)) (fun hR => ig5 x h.ig hR) rfl rfl, (hw0.kb.trans hw.kb).below hlo hlw⟩
theorem chP5a (lo B n : Nat) (cs es : Array Value) (s : Sta) (x : Ev) (w : World) (hg : w.heap[B]? = some (.cells cs 33 (0, 0))) (h : Og (fun b => b ≠ B) lo w (n + 1) cs s) (he : IsEv (IsP (Vk (fun b => b ≠ B) lo w cs) w (n + 1)) es x) (hlo : lo ≤ B) (hk : x.k = 5) (hn : ¬ 0 < x.n) :
    Calls Tryz.prog 42 #[.pointer (some ⟨B, 0, none⟩), .agg es] w (ChP lo B (n + 1) (ch4 s x) w) := by
  have hBl : B < w.heap.size := (Array.getElem?_eq_some_iff.1 hg).1
  have hlw : lo ≤ w.heap.size := by omega
  have i := h.ig
  have e0 := he.c0
  rw [hk] at e0
  have o1 : ∀ q, q ≠ 2 → q ≠ 3 → (cs1 cs s.count x.t)[q]? = cs[q]? := fun q h2 h3 => puts_ne (by simp; omega)
  have d2 : (cs1 cs s.count x.t)[2]? = some (.int .i64 (wrap64 (s.count + 1))) := by simp [cs1, puts, i.size]
  have f := fun q v (h2 : q ≠ 2) (h3 : q ≠ 3) (hq : cs[q]? = some v) => (o1 q h2 h3).trans hq
  refine chgC5 B cs es s.count s.time x.t w (PuP B (cs1 cs s.count x.t) [(16, .int .i64 0), (17, .int .i64 0), (18, .int .i64 0), (19, .int .i64 0), (20, .int .i64 0)]) _ hg i.c2 i.c3 he.size e0 he.c1 (fun W hw => taskEnd B _ es 5 _ _ _ _ _ x.n W hw.row (by decide) (by decide) (f 16 _ (by decide) (by decide) i.c16) (f 17 _ (by decide) (by decide) i.c17) (f 18 _ (by decide) (by decide) i.c18) (f 19 _ (by decide) (by decide) i.c19) (f 20 _ (by decide) (by decide) i.c20) he.c2 hn e0) (fun W e W' hw0 h1 => ?_)
  obtain ⟨rfl, hw⟩ := h1
  have hrow := hw.row
  rw [cs1, ← puts_app] at hrow
  exact ⟨rfl, rfl, _, hrow, og_same h hg (hw0.kb.trans hw.kb) (puts_ne (by simp)) (puts_ne (by simp)) (fun hR => ig4 x h.ig hR) rfl rfl, (hw0.kb.trans hw.kb).below hlo hlw⟩
theorem chP5b (lo B n : Nat) (cs es : Array Value) (s : Sta) (x : Ev) (w : World) (hg : w.heap[B]? = some (.cells cs 33 (0, 0))) (h : Og (fun b => b ≠ B) lo w (n + 1) cs s) (he : IsEv (IsP (Vk (fun b => b ≠ B) lo w cs) w (n + 1)) es x) (hlo : lo ≤ B) (hk : x.k = 5) (hn : 0 < x.n) :
    Calls Tryz.prog 42 #[.pointer (some ⟨B, 0, none⟩), .agg es] w (ChP lo B (n + 1) (ch5 s x) w) := by
  have hBl : B < w.heap.size := (Array.getElem?_eq_some_iff.1 hg).1
  have hlw : lo ≤ w.heap.size := by omega
  have i := h.ig
  have e0 := he.c0
  rw [hk] at e0
  have o1 : ∀ q, q ≠ 2 → q ≠ 3 → (cs1 cs s.count x.t)[q]? = cs[q]? := fun q h2 h3 => puts_ne (by simp; omega)
  have d2 : (cs1 cs s.count x.t)[2]? = some (.int .i64 (wrap64 (s.count + 1))) := by simp [cs1, puts, i.size]
  have f := fun q v (h2 : q ≠ 2) (h3 : q ≠ 3) (hq : cs[q]? = some v) => (o1 q h2 h3).trans hq
  refine chgC5 B cs es s.count s.time x.t w (PuP B (cs1 cs s.count x.t) [(16, .int .i64 0), (17, .int .i64 0), (18, .int .i64 0), (19, .int .i64 0), (20, .int .i64 0), (5, .int .i64 x.n)]) _ hg i.c2 i.c3 he.size e0 he.c1 (fun W hw => taskFrom B _ es 5 _ _ _ _ _ x.n _ W hw.row (by decide) (by decide) (f 16 _ (by decide) (by decide) i.c16) (f 17 _ (by decide) (by decide) i.c17) (f 18 _ (by decide) (by decide) i.c18) (f 19 _ (by decide) (by decide) i.c19) (f 20 _ (by decide) (by decide) i.c20) (f 5 _ (by decide) (by decide) i.c5) he.c2 hn e0) (fun W e W' hw0 h1 => ?_)
  obtain ⟨rfl, hw⟩ := h1
  have hrow := hw.row
  rw [cs1, ← puts_app] at hrow
  exact ⟨rfl, rfl, _, hrow, og_same h hg (hw0.kb.trans hw.kb) (puts_ne (by simp)) (puts_ne (by simp)) (fun hR => ig5 x h.ig hR) rfl rfl, (hw0.kb.trans hw.kb).below hlo hlw⟩
theorem chP6a (lo B n : Nat) (cs es : Array Value) (s : Sta) (x : Ev) (w : World) (hg : w.heap[B]? = some (.cells cs 33 (0, 0))) (h : Og (fun b => b ≠ B) lo w (n + 1) cs s) (he : IsEv (IsP (Vk (fun b => b ≠ B) lo w cs) w (n + 1)) es x) (hlo : lo ≤ B) (hk : x.k = 6) (hn : ¬ 0 < x.n) :
    Calls Tryz.prog 42 #[.pointer (some ⟨B, 0, none⟩), .agg es] w (ChP lo B (n + 1) (ch4 s x) w) := by
  have hBl : B < w.heap.size := (Array.getElem?_eq_some_iff.1 hg).1
  have hlw : lo ≤ w.heap.size := by omega
  have i := h.ig
  have e0 := he.c0
  rw [hk] at e0
  have o1 : ∀ q, q ≠ 2 → q ≠ 3 → (cs1 cs s.count x.t)[q]? = cs[q]? := fun q h2 h3 => puts_ne (by simp; omega)
  have d2 : (cs1 cs s.count x.t)[2]? = some (.int .i64 (wrap64 (s.count + 1))) := by simp [cs1, puts, i.size]
  have f := fun q v (h2 : q ≠ 2) (h3 : q ≠ 3) (hq : cs[q]? = some v) => (o1 q h2 h3).trans hq
  refine chgC6 B cs es s.count s.time x.t w (PuP B (cs1 cs s.count x.t) [(16, .int .i64 0), (17, .int .i64 0), (18, .int .i64 0), (19, .int .i64 0), (20, .int .i64 0)]) _ hg i.c2 i.c3 he.size e0 he.c1 (fun W hw => taskEnd B _ es 6 _ _ _ _ _ x.n W hw.row (by decide) (by decide) (f 16 _ (by decide) (by decide) i.c16) (f 17 _ (by decide) (by decide) i.c17) (f 18 _ (by decide) (by decide) i.c18) (f 19 _ (by decide) (by decide) i.c19) (f 20 _ (by decide) (by decide) i.c20) he.c2 hn e0) (fun W e W' hw0 h1 => ?_)
  obtain ⟨rfl, hw⟩ := h1
  have hrow := hw.row
  rw [cs1, ← puts_app] at hrow
  exact ⟨rfl, rfl, _, hrow, og_same h hg (hw0.kb.trans hw.kb) (puts_ne (by simp)) (puts_ne (by simp)) (fun hR => ig4 x h.ig hR) rfl rfl, (hw0.kb.trans hw.kb).below hlo hlw⟩
theorem chP6b (lo B n : Nat) (cs es : Array Value) (s : Sta) (x : Ev) (w : World) (hg : w.heap[B]? = some (.cells cs 33 (0, 0))) (h : Og (fun b => b ≠ B) lo w (n + 1) cs s) (he : IsEv (IsP (Vk (fun b => b ≠ B) lo w cs) w (n + 1)) es x) (hlo : lo ≤ B) (hk : x.k = 6) (hn : 0 < x.n) :
    Calls Tryz.prog 42 #[.pointer (some ⟨B, 0, none⟩), .agg es] w (ChP lo B (n + 1) (ch5 s x) w) := by
  have hBl : B < w.heap.size := (Array.getElem?_eq_some_iff.1 hg).1
  have hlw : lo ≤ w.heap.size := by omega
  have i := h.ig
  have e0 := he.c0
  rw [hk] at e0
  have o1 : ∀ q, q ≠ 2 → q ≠ 3 → (cs1 cs s.count x.t)[q]? = cs[q]? := fun q h2 h3 => puts_ne (by simp; omega)
  have d2 : (cs1 cs s.count x.t)[2]? = some (.int .i64 (wrap64 (s.count + 1))) := by simp [cs1, puts, i.size]
  have f := fun q v (h2 : q ≠ 2) (h3 : q ≠ 3) (hq : cs[q]? = some v) => (o1 q h2 h3).trans hq
  refine chgC6 B cs es s.count s.time x.t w (PuP B (cs1 cs s.count x.t) [(16, .int .i64 0), (17, .int .i64 0), (18, .int .i64 0), (19, .int .i64 0), (20, .int .i64 0), (5, .int .i64 x.n)]) _ hg i.c2 i.c3 he.size e0 he.c1 (fun W hw => taskFrom B _ es 6 _ _ _ _ _ x.n _ W hw.row (by decide) (by decide) (f 16 _ (by decide) (by decide) i.c16) (f 17 _ (by decide) (by decide) i.c17) (f 18 _ (by decide) (by decide) i.c18) (f 19 _ (by decide) (by decide) i.c19) (f 20 _ (by decide) (by decide) i.c20) (f 5 _ (by decide) (by decide) i.c5) he.c2 hn e0) (fun W e W' hw0 h1 => ?_)
  obtain ⟨rfl, hw⟩ := h1
  have hrow := hw.row
  rw [cs1, ← puts_app] at hrow
  exact ⟨rfl, rfl, _, hrow, og_same h hg (hw0.kb.trans hw.kb) (puts_ne (by simp)) (puts_ne (by simp)) (fun hR => ig5 x h.ig hR) rfl rfl, (hw0.kb.trans hw.kb).below hlo hlw⟩
theorem chP15 (lo B n : Nat) (cs es : Array Value) (s : Sta) (x : Ev) (w : World) (hg : w.heap[B]? = some (.cells cs 33 (0, 0))) (h : Og (fun b => b ≠ B) lo w (n + 1) cs s) (he : IsEv (IsP (Vk (fun b => b ≠ B) lo w cs) w (n + 1)) es x) (hlo : lo ≤ B) (hk : x.k = 15) :
    Calls Tryz.prog 42 #[.pointer (some ⟨B, 0, none⟩), .agg es] w (ChP lo B (n + 1) (ch15 s x) w) := by
  have hBl : B < w.heap.size := (Array.getElem?_eq_some_iff.1 hg).1
  have hlw : lo ≤ w.heap.size := by omega
  have i := h.ig
  have e0 := he.c0
  rw [hk] at e0
  obtain ⟨ta, tc, t1, _⟩ := h.tm
  obtain ⟨k0, x0, b0, s0, a0, m0, n0, v5, v6, v7, v8, v9, hv⟩ := he.v
  obtain ⟨k1, x1, b1, s1, a1, l1, n1, r5, r6, r7, r8, r9, _⟩ := i.res
  have o1 : ∀ q, q ≠ 2 → q ≠ 3 → (cs1 cs s.count x.t)[q]? = cs[q]? := fun q h2 h3 => puts_ne (by simp; omega)
  have d2 : (cs1 cs s.count x.t)[2]? = some (.int .i64 (wrap64 (s.count + 1))) := by simp [cs1, puts, i.size]
  have f := fun q v (h2 : q ≠ 2) (h3 : q ≠ 3) (hq : cs[q]? = some v) => (o1 q h2 h3).trans hq
  refine chgC15 B cs es s.count s.time x.t w (PuP B (cs1 cs s.count x.t) [(16, .int .i64 0), (17, .int .i64 0), (18, .int .i64 0), (19, .int .i64 0), (20, .int .i64 0), (23, .slice none 0 0), (1, .int .i64 2), (25, .int .i64 k0), (26, .int .i64 x0), (27, .int .u64 b0), (28, .string s0), (29, .slice a0 m0 n0)]) _ hg i.c2 i.c3 he.size e0 he.c1 (fun W hw => end15 B _ es _ _ _ _ _ _ _ _ _ k0 x0 b0 _ _ _ s0 _ a0 _ m0 n0 _ _ W hw.row (f 16 _ (by decide) (by decide) i.c16) (f 17 _ (by decide) (by decide) i.c17) (f 18 _ (by decide) (by decide) i.c18) (f 19 _ (by decide) (by decide) i.c19) (f 20 _ (by decide) (by decide) i.c20) (f 23 _ (by decide) (by decide) t1) (f 1 _ (by decide) (by decide) i.c1) (f 25 _ (by decide) (by decide) r5) (f 26 _ (by decide) (by decide) r6) (f 27 _ (by decide) (by decide) r7) (f 28 _ (by decide) (by decide) r8) (f 29 _ (by decide) (by decide) r9) v5 v6 v7 v8 v9 e0) (fun W e W' hw0 h1 => ?_)
  obtain ⟨rfl, hw⟩ := h1
  have hrow := hw.row
  rw [cs1, ← puts_app] at hrow
  exact ⟨rfl, rfl, _, hrow, og_end h hg (hw0.kb.trans hw.kb) (by simp [puts, i.size]) (puts_ne (by simp)) (fun hR => ig15 x (hR _ _ hv) h.ig hR) rfl rfl, (hw0.kb.trans hw.kb).below hlo hlw⟩
theorem chP16 (lo B n : Nat) (cs es : Array Value) (s : Sta) (x : Ev) (w : World) (hg : w.heap[B]? = some (.cells cs 33 (0, 0))) (h : Og (fun b => b ≠ B) lo w (n + 1) cs s) (he : IsEv (IsP (Vk (fun b => b ≠ B) lo w cs) w (n + 1)) es x) (hlo : lo ≤ B) (hk : x.k = 16) :
    Calls Tryz.prog 42 #[.pointer (some ⟨B, 0, none⟩), .agg es] w (ChP lo B (n + 1) (ch16 s x) w) := by
  have hBl : B < w.heap.size := (Array.getElem?_eq_some_iff.1 hg).1
  have hlw : lo ≤ w.heap.size := by omega
  have i := h.ig
  have e0 := he.c0
  rw [hk] at e0
  obtain ⟨ta, tc, t1, _⟩ := h.tm
  have o1 : ∀ q, q ≠ 2 → q ≠ 3 → (cs1 cs s.count x.t)[q]? = cs[q]? := fun q h2 h3 => puts_ne (by simp; omega)
  have d2 : (cs1 cs s.count x.t)[2]? = some (.int .i64 (wrap64 (s.count + 1))) := by simp [cs1, puts, i.size]
  have f := fun q v (h2 : q ≠ 2) (h3 : q ≠ 3) (hq : cs[q]? = some v) => (o1 q h2 h3).trans hq
  refine chgC16 B cs es s.count s.time x.t w (PuP B (cs1 cs s.count x.t) [(16, .int .i64 0), (17, .int .i64 0), (18, .int .i64 0), (19, .int .i64 0), (20, .int .i64 0), (23, .slice none 0 0), (1, .int .i64 3), (30, .string x.s)]) _ hg i.c2 i.c3 he.size e0 he.c1 (fun W hw => end16 B _ es _ _ _ _ _ _ _ _ _ _ x.s W hw.row (f 16 _ (by decide) (by decide) i.c16) (f 17 _ (by decide) (by decide) i.c17) (f 18 _ (by decide) (by decide) i.c18) (f 19 _ (by decide) (by decide) i.c19) (f 20 _ (by decide) (by decide) i.c20) (f 23 _ (by decide) (by decide) t1) (f 1 _ (by decide) (by decide) i.c1) (f 30 _ (by decide) (by decide) i.c30) he.c4 e0) (fun W e W' hw0 h1 => ?_)
  obtain ⟨rfl, hw⟩ := h1
  have hrow := hw.row
  rw [cs1, ← puts_app] at hrow
  exact ⟨rfl, rfl, _, hrow, og_end h hg (hw0.kb.trans hw.kb) (by simp [puts, i.size]) (puts_ne (by simp)) (fun hR => ig16 x h.ig hR) rfl rfl, (hw0.kb.trans hw.kb).below hlo hlw⟩
theorem chP18 (lo B n : Nat) (cs es : Array Value) (s : Sta) (x : Ev) (w : World) (hg : w.heap[B]? = some (.cells cs 33 (0, 0))) (h : Og (fun b => b ≠ B) lo w (n + 1) cs s) (he : IsEv (IsP (Vk (fun b => b ≠ B) lo w cs) w (n + 1)) es x) (hlo : lo ≤ B) (hk : x.k = 18) :
    Calls Tryz.prog 42 #[.pointer (some ⟨B, 0, none⟩), .agg es] w (ChP lo B (n + 1) (ch18 s x) w) := by
  have hBl : B < w.heap.size := (Array.getElem?_eq_some_iff.1 hg).1
  have hlw : lo ≤ w.heap.size := by omega
  have i := h.ig
  have e0 := he.c0
  rw [hk] at e0
  obtain ⟨ta, tc, t1, _⟩ := h.tm
  have o1 : ∀ q, q ≠ 2 → q ≠ 3 → (cs1 cs s.count x.t)[q]? = cs[q]? := fun q h2 h3 => puts_ne (by simp; omega)
  have d2 : (cs1 cs s.count x.t)[2]? = some (.int .i64 (wrap64 (s.count + 1))) := by simp [cs1, puts, i.size]
  have f := fun q v (h2 : q ≠ 2) (h3 : q ≠ 3) (hq : cs[q]? = some v) => (o1 q h2 h3).trans hq
  refine chgC18 B cs es s.count s.time x.t w (PuP B (cs1 cs s.count x.t) [(16, .int .i64 0), (17, .int .i64 0), (18, .int .i64 0), (19, .int .i64 0), (20, .int .i64 0), (23, .slice none 0 0), (1, .int .i64 5), (30, .string x.s)]) _ hg i.c2 i.c3 he.size e0 he.c1 (fun W hw => end18 B _ es _ _ _ _ _ _ _ _ _ _ x.s W hw.row (f 16 _ (by decide) (by decide) i.c16) (f 17 _ (by decide) (by decide) i.c17) (f 18 _ (by decide) (by decide) i.c18) (f 19 _ (by decide) (by decide) i.c19) (f 20 _ (by decide) (by decide) i.c20) (f 23 _ (by decide) (by decide) t1) (f 1 _ (by decide) (by decide) i.c1) (f 30 _ (by decide) (by decide) i.c30) he.c4 e0) (fun W e W' hw0 h1 => ?_)
  obtain ⟨rfl, hw⟩ := h1
  have hrow := hw.row
  rw [cs1, ← puts_app] at hrow
  exact ⟨rfl, rfl, _, hrow, og_end h hg (hw0.kb.trans hw.kb) (by simp [puts, i.size]) (puts_ne (by simp)) (fun hR => ig18 x h.ig hR) rfl rfl, (hw0.kb.trans hw.kb).below hlo hlw⟩
theorem chP17 (lo B n : Nat) (cs es : Array Value) (s : Sta) (x : Ev) (w : World) (hg : w.heap[B]? = some (.cells cs 33 (0, 0))) (h : Og (fun b => b ≠ B) lo w (n + 1) cs s) (he : IsEv (IsP (Vk (fun b => b ≠ B) lo w cs) w (n + 1)) es x) (hlo : lo ≤ B) (hk : x.k = 17) :
    Calls Tryz.prog 42 #[.pointer (some ⟨B, 0, none⟩), .agg es] w (ChP lo B (n + 1) (ch17 s x) w) := by
  have hBl : B < w.heap.size := (Array.getElem?_eq_some_iff.1 hg).1
  have hlw : lo ≤ w.heap.size := by omega
  have i := h.ig
  have e0 := he.c0
  rw [hk] at e0
  obtain ⟨ta, tc, t1, _⟩ := h.tm
  have o1 : ∀ q, q ≠ 2 → q ≠ 3 → (cs1 cs s.count x.t)[q]? = cs[q]? := fun q h2 h3 => puts_ne (by simp; omega)
  have d2 : (cs1 cs s.count x.t)[2]? = some (.int .i64 (wrap64 (s.count + 1))) := by simp [cs1, puts, i.size]
  have f := fun q v (h2 : q ≠ 2) (h3 : q ≠ 3) (hq : cs[q]? = some v) => (o1 q h2 h3).trans hq
  refine chgC17 B cs es s.count s.time x.t w (PuP B (cs1 cs s.count x.t) [(16, .int .i64 0), (17, .int .i64 0), (18, .int .i64 0), (19, .int .i64 0), (20, .int .i64 0), (23, .slice none 0 0), (1, .int .i64 4)]) _ hg i.c2 i.c3 he.size e0 he.c1 (fun W hw => end17 B _ es _ _ _ _ _ _ _ _ _ W hw.row (f 16 _ (by decide) (by decide) i.c16) (f 17 _ (by decide) (by decide) i.c17) (f 18 _ (by decide) (by decide) i.c18) (f 19 _ (by decide) (by decide) i.c19) (f 20 _ (by decide) (by decide) i.c20) (f 23 _ (by decide) (by decide) t1) (f 1 _ (by decide) (by decide) i.c1) e0) (fun W e W' hw0 h1 => ?_)
  obtain ⟨rfl, hw⟩ := h1
  have hrow := hw.row
  rw [cs1, ← puts_app] at hrow
  exact ⟨rfl, rfl, _, hrow, og_end h hg (hw0.kb.trans hw.kb) (by simp [puts, i.size]) (puts_ne (by simp)) (fun hR => ig17 x h.ig hR) rfl rfl, (hw0.kb.trans hw.kb).below hlo hlw⟩
theorem chP19 (lo B n : Nat) (cs es : Array Value) (s : Sta) (x : Ev) (w : World) (hg : w.heap[B]? = some (.cells cs 33 (0, 0))) (h : Og (fun b => b ≠ B) lo w (n + 1) cs s) (he : IsEv (IsP (Vk (fun b => b ≠ B) lo w cs) w (n + 1)) es x) (hlo : lo ≤ B) (hk : x.k = 19) :
    Calls Tryz.prog 42 #[.pointer (some ⟨B, 0, none⟩), .agg es] w (ChP lo B (n + 1) (ch19 s x) w) := by
  have hBl : B < w.heap.size := (Array.getElem?_eq_some_iff.1 hg).1
  have hlw : lo ≤ w.heap.size := by omega
  have i := h.ig
  have e0 := he.c0
  rw [hk] at e0
  obtain ⟨ta, tc, t1, _⟩ := h.tm
  have o1 : ∀ q, q ≠ 2 → q ≠ 3 → (cs1 cs s.count x.t)[q]? = cs[q]? := fun q h2 h3 => puts_ne (by simp; omega)
  have d2 : (cs1 cs s.count x.t)[2]? = some (.int .i64 (wrap64 (s.count + 1))) := by simp [cs1, puts, i.size]
  have f := fun q v (h2 : q ≠ 2) (h3 : q ≠ 3) (hq : cs[q]? = some v) => (o1 q h2 h3).trans hq
  refine chgC19 B cs es s.count s.time x.t w (PuP B (cs1 cs s.count x.t) [(16, .int .i64 0), (17, .int .i64 0), (18, .int .i64 0), (19, .int .i64 0), (20, .int .i64 0), (23, .slice none 0 0), (1, .int .i64 6)]) _ hg i.c2 i.c3 he.size e0 he.c1 (fun W hw => end19 B _ es _ _ _ _ _ _ _ _ _ W hw.row (f 16 _ (by decide) (by decide) i.c16) (f 17 _ (by decide) (by decide) i.c17) (f 18 _ (by decide) (by decide) i.c18) (f 19 _ (by decide) (by decide) i.c19) (f 20 _ (by decide) (by decide) i.c20) (f 23 _ (by decide) (by decide) t1) (f 1 _ (by decide) (by decide) i.c1) e0) (fun W e W' hw0 h1 => ?_)
  obtain ⟨rfl, hw⟩ := h1
  have hrow := hw.row
  rw [cs1, ← puts_app] at hrow
  exact ⟨rfl, rfl, _, hrow, og_end h hg (hw0.kb.trans hw.kb) (by simp [puts, i.size]) (puts_ne (by simp)) (fun hR => ig19 x h.ig hR) rfl rfl, (hw0.kb.trans hw.kb).below hlo hlw⟩
end Go.Proofs.YthphgkaifnacbaaGreat
namespace Go.Proofs.YthphgkaifnacbaaGreat
open Go.ChangeShapes Go.WideShapes Go.ChangeAt Go.RowKit
theorem ins_rel {α β : Type} {P : β → α → Prop} {us : List β} {l : List α} (hl : us.length = l.length) (h : ∀ (i : Nat) r u, us[i]? = some r → l[i]? = some u → P r u) {i : Nat} (hi : i ≤ l.length) {x : α} {y : β} (hxy : P y x) :
    ∀ (q : Nat) r u, (us.take i ++ y :: us.drop i)[q]? = some r → (l.take i ++ x :: l.drop i)[q]? = some u → P r u := by
  intro q r u hr hu
  have l1 : (us.take i).length = i := by rw [List.length_take]; omega
  have l2 : (l.take i).length = i := by rw [List.length_take]; omega
  rcases Nat.lt_trichotomy q i with hq | hq | hq
  · rw [List.getElem?_append_left (by omega), List.getElem?_take_of_lt hq] at hr hu
    exact h q r u hr hu
  · subst hq
    rw [List.getElem?_append_right (by omega), l1, Nat.sub_self] at hr
    rw [List.getElem?_append_right (by omega), l2, Nat.sub_self] at hu
    cases hr
    cases hu
    exact hxy
  · obtain ⟨k, rfl⟩ : ∃ k, q = i + 1 + k := ⟨q - (i + 1), by omega⟩
    rw [List.getElem?_append_right (by omega), l1, show i + 1 + k - i = k + 1 by omega, List.getElem?_cons_succ, List.getElem?_drop] at hr
    rw [List.getElem?_append_right (by omega), l2, show i + 1 + k - i = k + 1 by omega, List.getElem?_cons_succ, List.getElem?_drop] at hu
    exact h _ r u hr hu
theorem zE_isP (ok : Nat → Prop) (w : World) (n : Nat) : IsP ok w (n + 1) (.agg #[.int .i64 0, .int .i64 0, .int .u64 0, .string ⟨#[]⟩, .slice none 0 0]) zE := by
  obtain ⟨a, c, hv, hf, _⟩ := zE_is w n
  cases hv
  exact ⟨none, 0, rfl, hf, fun i t h => by simp at h⟩
theorem chP9 (lo B n : Nat) (cs es : Array Value) (s : Sta) (x : Ev) (w : World) (hg : w.heap[B]? = some (.cells cs 33 (0, 0))) (h : Og (fun b => b ≠ B) lo w (n + 1) cs s) (he : IsEv (IsP (Vk (fun b => b ≠ B) lo w cs) w (n + 1)) es x) (hlo : lo ≤ B) (hk : x.k = 9) (lt : s.tm.length ≤ 500) :
    Calls Tryz.prog 42 #[.pointer (some ⟨B, 0, none⟩), .agg es] w (ChP lo B (n + 1) (ch9 s x) w) := by
  have hBl : B < w.heap.size := (Array.getElem?_eq_some_iff.1 hg).1
  have hlw : lo ≤ w.heap.size := by omega
  have i := h.ig
  have e0 := he.c0
  rw [hk] at e0
  obtain ⟨a, c, t1, t2⟩ := h.tm
  have o1 : ∀ q, q ≠ 2 → q ≠ 3 → (cs1 cs s.count x.t)[q]? = cs[q]? := fun q h2 h3 => puts_ne (by simp; omega)
  have f := fun q v (h2 : q ≠ 2) (h3 : q ≠ 3) (hq : cs[q]? = some v) => (o1 q h2 h3).trans hq
  have key := fun (W : World) (hw : WrS B w W (cs1 cs s.count x.t)) => timers9 lo B _ es s.tm a c x.s x.d W hw.row (f 23 _ (by decide) (by decide) t1) (owns_blk t2 (Nat.le_refl _) fun b hb => ne_blk hw.kb (t2.lt b hb).2 (fun e => box_ne t2 (by decide) hg (by rw [← e]; exact hb))) lt hlo e0 he.c3 he.c4
  have er : (insL (fun d => gtS d.s x.s) s.tm ⟨x.s, x.d⟩).map Tm.cells = (ch9 s x).tm.map Tm.cells := rfl
  rw [er] at key
  generalize hrw : (ch9 s x).tm.map Tm.cells = rows at key
  refine chgC9 B cs es s.count s.time x.t w (LsP lo B (cs1 cs s.count x.t) 23 56 2 (.slice a s.tm.length c) rows []) _ hg i.c2 i.c3 he.size e0 he.c1 key (fun W e W' hw0 h1 => ?_)
  obtain ⟨rfl, v, hrow, hl⟩ := h1
  have hl' := hl.from hw0.kb hlo hlw
  rw [← hrw] at hl'
  have hrow' : W'.heap[B]? = some (.cells (puts cs [(2, .int .i64 (wrap64 (s.count + 1))), (3, .int .i64 x.t), (23, v)]) 33 (0, 0)) := hrow
  exact ⟨rfl, rfl, _, hrow', og_tm h hg t1 hl' (by simp [puts, i.size]) (puts_ne (by simp)) (fun hR => ig9 x v h.ig hR) rfl, hl'.bel⟩
theorem chP10 (lo B n : Nat) (cs es : Array Value) (s : Sta) (x : Ev) (w : World) (hg : w.heap[B]? = some (.cells cs 33 (0, 0))) (h : Og (fun b => b ≠ B) lo w (n + 1) cs s) (he : IsEv (IsP (Vk (fun b => b ≠ B) lo w cs) w (n + 1)) es x) (hlo : lo ≤ B) (hk : x.k = 10) (lt : s.tm.length ≤ 500) (j : Nat) (hz : tmAt s x.s = (j : Int)) (hj : j < s.tm.length) :
    Calls Tryz.prog 42 #[.pointer (some ⟨B, 0, none⟩), .agg es] w (ChP lo B (n + 1) (ch10 s x) w) := by
  have hBl : B < w.heap.size := (Array.getElem?_eq_some_iff.1 hg).1
  have hlw : lo ≤ w.heap.size := by omega
  have i := h.ig
  have e0 := he.c0
  rw [hk] at e0
  obtain ⟨a, c, t1, t2⟩ := h.tm
  have o1 : ∀ q, q ≠ 2 → q ≠ 3 → (cs1 cs s.count x.t)[q]? = cs[q]? := fun q h2 h3 => puts_ne (by simp; omega)
  have f := fun q v (h2 : q ≠ 2) (h3 : q ≠ 3) (hq : cs[q]? = some v) => (o1 q h2 h3).trans hq
  have hOg : ∀ W, WrS B w W (cs1 cs s.count x.t) → Og (fun b => b ≠ B) lo W (n + 1) (cs1 cs s.count x.t) (ch14 s x) := fun W hw => og_same h hg hw.kb (puts_ne (by simp)) (puts_ne (by simp)) (fun hR => ig14 x h.ig hR) rfl rfl
  have ej : (tmAt s x.s).toNat = j := by rw [hz]; simp
  have hR97 : ∀ W, WrS B w W (cs1 cs s.count x.t) → Hid (∀ W', Below W.heap.size W W' → Calls Tryz.prog 97 #[.agg (cs1 cs s.count x.t), .string x.s] W' (IxP (j : Int) W')) := fun W hw W' hB => by
    have := timerAt_calls (n + 1) (cs1 cs s.count x.t) (ch14 s x) x.s W' ((hOg W hw).ps.rs.below hB) (show s.tm.length ≤ 1000 by omega)
    rw [show tmAt (ch14 s x) x.s = (j : Int) from hz] at this
    exact this
  refine chgC10 B cs es s.count s.time x.t w (LsP lo B (cs1 cs s.count x.t) 23 56 2 (.slice a s.tm.length c) ((delL s.tm j).map Tm.cells) [(21, .bool true)]) _ hg i.c2 i.c3 he.size e0 he.c1 (fun W hw => timers10 lo B _ es s.tm a c x.s j s.fresh W hw.row (by rw [cs1, puts_size]; exact i.size) (f 21 _ (by decide) (by decide) i.c21) (f 23 _ (by decide) (by decide) t1) (owns_blk t2 (Nat.le_refl _) fun b hb => ne_blk hw.kb (t2.lt b hb).2 (fun e => box_ne t2 (by decide) hg (by rw [← e]; exact hb))) lt hlo hj (hR97 W hw) e0 he.c4) (fun W e W' hw0 h1 => ?_)
  obtain ⟨rfl, v, hrow, hl⟩ := h1
  have hl' := hl.from hw0.kb hlo hlw
  rw [← ej] at hl'
  have hrow' : W'.heap[B]? = some (.cells (puts cs [(2, .int .i64 (wrap64 (s.count + 1))), (3, .int .i64 x.t), (23, v), (21, .bool true)]) 33 (0, 0)) := hrow
  exact ⟨rfl, rfl, _, hrow', og_tm h hg t1 hl' (by simp [puts, i.size]) (puts_ne (by simp)) (fun hR => ig10 x v h.ig hR) rfl, hl'.bel⟩
theorem chP11 (lo B n : Nat) (cs es : Array Value) (s : Sta) (x : Ev) (w : World) (hg : w.heap[B]? = some (.cells cs 33 (0, 0))) (h : Og (fun b => b ≠ B) lo w (n + 1) cs s) (he : IsEv (IsP (Vk (fun b => b ≠ B) lo w cs) w (n + 1)) es x) (hlo : lo ≤ B) (hk : x.k = 11) (lt : s.tm.length ≤ 500) (j : Nat) (hz : tmAt s x.s = (j : Int)) (hj : j < s.tm.length) :
    Calls Tryz.prog 42 #[.pointer (some ⟨B, 0, none⟩), .agg es] w (ChP lo B (n + 1) (ch11 s x) w) := by
  have hBl : B < w.heap.size := (Array.getElem?_eq_some_iff.1 hg).1
  have hlw : lo ≤ w.heap.size := by omega
  have i := h.ig
  have e0 := he.c0
  rw [hk] at e0
  obtain ⟨a, c, t1, t2⟩ := h.tm
  have o1 : ∀ q, q ≠ 2 → q ≠ 3 → (cs1 cs s.count x.t)[q]? = cs[q]? := fun q h2 h3 => puts_ne (by simp; omega)
  have f := fun q v (h2 : q ≠ 2) (h3 : q ≠ 3) (hq : cs[q]? = some v) => (o1 q h2 h3).trans hq
  have hOg : ∀ W, WrS B w W (cs1 cs s.count x.t) → Og (fun b => b ≠ B) lo W (n + 1) (cs1 cs s.count x.t) (ch14 s x) := fun W hw => og_same h hg hw.kb (puts_ne (by simp)) (puts_ne (by simp)) (fun hR => ig14 x h.ig hR) rfl rfl
  have ej : (tmAt s x.s).toNat = j := by rw [hz]; simp
  have hR97 : ∀ W, WrS B w W (cs1 cs s.count x.t) → Hid (∀ W', Below W.heap.size W W' → Calls Tryz.prog 97 #[.agg (cs1 cs s.count x.t), .string x.s] W' (IxP (j : Int) W')) := fun W hw W' hB => by
    have := timerAt_calls (n + 1) (cs1 cs s.count x.t) (ch14 s x) x.s W' ((hOg W hw).ps.rs.below hB) (show s.tm.length ≤ 1000 by omega)
    rw [show tmAt (ch14 s x) x.s = (j : Int) from hz] at this
    exact this
  refine chgC11 B cs es s.count s.time x.t w (LsP lo B (cs1 cs s.count x.t) 23 56 2 (.slice a s.tm.length c) ((delL s.tm j).map Tm.cells) []) _ hg i.c2 i.c3 he.size e0 he.c1 (fun W hw => timers11 lo B _ es s.tm a c x.s j s.fresh W hw.row (by rw [cs1, puts_size]; exact i.size) (f 21 _ (by decide) (by decide) i.c21) (f 23 _ (by decide) (by decide) t1) (owns_blk t2 (Nat.le_refl _) fun b hb => ne_blk hw.kb (t2.lt b hb).2 (fun e => box_ne t2 (by decide) hg (by rw [← e]; exact hb))) lt hlo hj (hR97 W hw) e0 he.c4) (fun W e W' hw0 h1 => ?_)
  obtain ⟨rfl, v, hrow, hl⟩ := h1
  have hl' := hl.from hw0.kb hlo hlw
  rw [← ej] at hl'
  have hrow' : W'.heap[B]? = some (.cells (puts cs [(2, .int .i64 (wrap64 (s.count + 1))), (3, .int .i64 x.t), (23, v)]) 33 (0, 0)) := hrow
  exact ⟨rfl, rfl, _, hrow', og_tm h hg t1 hl' (by simp [puts, i.size]) (puts_ne (by simp)) (fun hR => ig11 x v h.ig hR) rfl, hl'.bel⟩
theorem chP12 (lo B n : Nat) (cs es : Array Value) (s : Sta) (x : Ev) (w : World) (hg : w.heap[B]? = some (.cells cs 33 (0, 0))) (h : Og (fun b => b ≠ B) lo w (n + 1) cs s) (he : IsEv (IsP (Vk (fun b => b ≠ B) lo w cs) w (n + 1)) es x) (hlo : lo ≤ B) (hk : x.k = 12) (lu : s.up.length ≤ 500) :
    Calls Tryz.prog 42 #[.pointer (some ⟨B, 0, none⟩), .agg es] w (ChP lo B (n + 1) (ch12 s x) w) := by
  have hBl : B < w.heap.size := (Array.getElem?_eq_some_iff.1 hg).1
  have hlw : lo ≤ w.heap.size := by omega
  have i := h.ig
  have e0 := he.c0
  rw [hk] at e0
  obtain ⟨a, c, us, u1, u2, u3, u4⟩ := h.up
  have hus : ∀ (i : Nat) r, us[i]? = some r → r.size = 12 ∧ ∀ (j : Nat) (v : Value), r[j]? = some v → v.oneCell' = true := fun i r hr => by
    have hi := (List.getElem?_eq_some_iff.1 hr).1
    have := u4 i r _ hr (List.getElem?_eq_getElem (by omega))
    exact ⟨this.size, this.one⟩
  obtain ⟨k0, x0, b0, s0, a0, m0, n0, v5, v6, v7, v8, v9, hv⟩ := he.v
  have o1 : ∀ q, q ≠ 2 → q ≠ 3 → (cs1 cs s.count x.t)[q]? = cs[q]? := fun q h2 h3 => puts_ne (by simp; omega)
  have f := fun q v (h2 : q ≠ 2) (h3 : q ≠ 3) (hq : cs[q]? = some v) => (o1 q h2 h3).trans hq
  refine chgC12 B cs es s.count s.time x.t w (LsP lo B (cs1 cs s.count x.t) 24 37 12 (.slice a s.up.length c) (us.take (insI (fun d => gtS d.s x.s) s.up) ++ #[.string x.s, .int .i64 k0, .int .i64 x0, .int .u64 b0, .string s0, .slice a0 m0 n0, .int .i64 1, .int .i64 0, .int .i64 0, .int .u64 0, .string ⟨#[]⟩, .slice none 0 0] :: us.drop (insI (fun d => gtS d.s x.s) s.up)) []) _ hg i.c2 i.c3 he.size e0 he.c1 (fun W hw => updates12 lo B _ es s.up us a c x.s k0 x0 b0 s0 a0 m0 n0 W hw.row (f 24 _ (by decide) (by decide) u1) (owns_blk u2 (Nat.le_refl _) fun b hb => ne_blk hw.kb (u2.lt b hb).2 (fun e => box_ne u2 (by decide) hg (by rw [← e]; exact hb))) u3 hus (fun i r u hr hu => (u4 i r u hr hu).uh) lu hlo e0 he.c4 v5 v6 v7 v8 v9) (fun W e W' hw0 h1 => ?_)
  obtain ⟨rfl, v, hrow, hl⟩ := h1
  have hl' := hl.from hw0.kb hlo hlw
  have hrow' : W'.heap[B]? = some (.cells (puts cs [(2, .int .i64 (wrap64 (s.count + 1))), (3, .int .i64 x.t), (24, v)]) 33 (0, 0)) := hrow
  have hil := insI_le (fun d : Up => gtS d.s x.s) s.up
  refine ⟨rfl, rfl, _, hrow', og_up h hg u1 hl' ?_ (puts_ne (by simp)) (by simp [puts, i.size]) (fun hR => ig12 x v h.ig hR) rfl (fun hR => ?_), hl'.bel⟩
  · show _ = (insL (fun d => gtS d.s x.s) s.up _).length
    rw [insL_length]
    simp
    omega
  · exact ins_rel u3 (fun i r u hr hu => (u4 i r u hr hu).map hR) hil ⟨rfl, rfl, ⟨k0, x0, b0, s0, a0, m0, n0, rfl, rfl, rfl, rfl, rfl, hR _ _ hv⟩, rfl, ⟨0, 0, 0, ⟨#[]⟩, none, 0, 0, rfl, rfl, rfl, rfl, rfl, zE_isP _ _ _⟩⟩
theorem chP13 (lo B n : Nat) (cs es : Array Value) (s : Sta) (x : Ev) (w : World) (hg : w.heap[B]? = some (.cells cs 33 (0, 0))) (h : Og (fun b => b ≠ B) lo w (n + 1) cs s) (he : IsEv (IsP (Vk (fun b => b ≠ B) lo w cs) w (n + 1)) es x) (hlo : lo ≤ B) (hk : x.k = 13) (lu : s.up.length ≤ 500) (j : Nat) (hz : waAt s x.s = (j : Int)) (hj : j < s.up.length) :
    Calls Tryz.prog 42 #[.pointer (some ⟨B, 0, none⟩), .agg es] w (ChP lo B (n + 1) (ch13 s x) w) := by
  have hBl : B < w.heap.size := (Array.getElem?_eq_some_iff.1 hg).1
  have hlw : lo ≤ w.heap.size := by omega
  have i := h.ig
  have e0 := he.c0
  rw [hk] at e0
  obtain ⟨a, c, us, u1, u2, u3, u4⟩ := h.up
  have hus : ∀ (i : Nat) r, us[i]? = some r → r.size = 12 ∧ ∀ (j : Nat) (v : Value), r[j]? = some v → v.oneCell' = true := fun i r hr => by
    have hi := (List.getElem?_eq_some_iff.1 hr).1
    have := u4 i r _ hr (List.getElem?_eq_getElem (by omega))
    exact ⟨this.size, this.one⟩
  obtain ⟨k0, x0, b0, s0, a0, m0, n0, v5, v6, v7, v8, v9, hv⟩ := he.v
  have o1 : ∀ q, q ≠ 2 → q ≠ 3 → (cs1 cs s.count x.t)[q]? = cs[q]? := fun q h2 h3 => puts_ne (by simp; omega)
  have f := fun q v (h2 : q ≠ 2) (h3 : q ≠ 3) (hq : cs[q]? = some v) => (o1 q h2 h3).trans hq
  have hOg : ∀ W, WrS B w W (cs1 cs s.count x.t) → Og (fun b => b ≠ B) lo W (n + 1) (cs1 cs s.count x.t) (ch14 s x) := fun W hw => og_same h hg hw.kb (puts_ne (by simp)) (puts_ne (by simp)) (fun hR => ig14 x h.ig hR) rfl rfl
  have ej : (waAt s x.s).toNat = j := by rw [hz]; simp
  have hR98 : ∀ W, WrS B w W (cs1 cs s.count x.t) → Hid (∀ W', Below W.heap.size W W' → Calls Tryz.prog 98 #[.agg (cs1 cs s.count x.t), .string x.s] W' (IxP (j : Int) W')) := fun W hw W' hB => by
    have := waitingAt_calls (n + 1) (cs1 cs s.count x.t) (ch14 s x) x.s W' ((hOg W hw).ps.rs.below hB) (show s.up.length ≤ 1000 by omega)
    rw [show waAt (ch14 s x) x.s = (j : Int) from hz] at this
    exact this
  obtain ⟨r, hr⟩ : ∃ r, us[j]? = some r := ⟨_, List.getElem?_eq_getElem (by omega)⟩
  obtain ⟨u, hu⟩ : ∃ u, s.up[j]? = some u := ⟨_, List.getElem?_eq_getElem hj⟩
  have hIU := u4 j r u hr hu
  obtain ⟨k1, x1, b1, s1, a1, l1, n1, r7, r8, r9, r10, r11, _⟩ := hIU.o
  obtain ⟨UB, rfl⟩ : ∃ UB, a = some ⟨UB, 0, none⟩ := by
    obtain ⟨_, ⟨_, h0⟩ | ⟨g, cap, cur, h1, _⟩⟩ := u2
    · omega
    · cases h1
      exact ⟨g, rfl⟩
  refine chgC13 B cs es s.count s.time x.t w (OuP lo B UB s.up.length c (cs1 cs s.count x.t) (us.set j (endU r [.int .i64 2, .int .i64 k0, .int .i64 x0, .int .u64 b0, .string s0, .slice a0 m0 n0]))) _ hg i.c2 i.c3 he.size e0 he.c1 (fun W hw => updates13 lo B UB s.up.length c _ es us x.s j r u.g k1 x1 b1 s1 a1 l1 n1 k0 x0 b0 s0 a0 m0 n0 W hw.row (by rw [cs1, puts_size]; exact i.size) (f 24 _ (by decide) (by decide) u1) (owns_blk u2 (Nat.le_refl _) fun b hb => ne_blk hw.kb (u2.lt b hb).2 (fun e => box_ne u2 (by decide) hg (by rw [← e]; exact hb))) u3 (fun i r hr => (hus i r hr).1) lu hlo hr hIU.c6 r7 r8 r9 r10 r11 (hR98 W hw) e0 he.c4 v5 v6 v7 v8 v9) (fun W e W' hw0 h1 => ?_)
  obtain ⟨rfl, hrow, hown, hbel, hkeep⟩ := h1
  have hs0 := hw0.kb.2.2.2.1
  have hl' : Lw lo B 37 12 (.slice (some ⟨UB, 0, none⟩) s.up.length c) (us.set j (endU r [.int .i64 2, .int .i64 k0, .int .i64 x0, .int .u64 b0, .string s0, .slice a0 m0 n0])) w (.slice (some ⟨UB, 0, none⟩) s.up.length c) W' := ⟨by rw [List.length_set, u3]; exact hown, (hw0.kb.below hlo hlw).trans hbel, fun B' b1 b2 b3 => (hkeep B' (by omega) (fun e => b3 (by rw [e]; rfl))).trans (ne_blk hw0.kb b1 b2), .inl rfl⟩
  have hsz := hIU.size
  refine ⟨rfl, rfl, _, hrow, og_up h hg u1 hl' ?_ (puts_ne (by simp)) ((puts_ne (by simp)).trans u1) (fun hR => ig13 x h.ig hR) rfl (fun hR => ?_), hl'.bel⟩
  · show _ = (s.up.modify _ _).length
    simp [u3]
  · intro q r' u' hr' hu'
    have hu2 : (s.up.modify j (fun u => { u with g := 2, o := x.v }))[q]? = some u' := by
      have : (ch13 s x).up = s.up.modify j (fun u => { u with g := 2, o := x.v }) := by rw [← ej]; rfl
      rw [← this]
      exact hu'
    rw [List.getElem?_set] at hr'
    rw [List.getElem?_modify] at hu2
    by_cases hq : j = q
    · subst hq
      simp only [show j < us.length by omega, if_true, Option.some.injEq] at hr'
      have hue : u' = { u with g := 2, o := x.v } := by simpa [hu, eq_comm] using hu2
      subst hue
      subst hr'
      have o := hIU.map hR
      exact ⟨endU_size hsz rfl, (endU_lo hsz (by decide)).trans o.c0, o.v.other fun q h1 h2 => endU_lo hsz (by omega), endU_hi (j := 0) hsz, ⟨k0, x0, b0, s0, a0, m0, n0, endU_hi (j := 1) hsz, endU_hi (j := 2) hsz, endU_hi (j := 3) hsz, endU_hi (j := 4) hsz, endU_hi (j := 5) hsz, hR _ _ hv⟩⟩
    · rw [if_neg hq] at hr'
      simp only [if_neg hq] at hu2
      exact (u4 q r' u' hr' (by simpa using hu2)).map hR
theorem change_calls (lo B n : Nat) (cs es : Array Value) (s : Sta) (x : Ev) (w : World) (hg : w.heap[B]? = some (.cells cs 33 (0, 0))) (h : Og (fun b => b ≠ B) lo w (n + 1) cs s) (he : IsEv (IsP (Vk (fun b => b ≠ B) lo w cs) w (n + 1)) es x) (hlo : lo ≤ B) (hk : 1 ≤ x.k ∧ x.k ≤ 19) (hf : fitsB s x = true) (lt : s.tm.length ≤ 500) (lu : s.up.length ≤ 500) :
    Calls Tryz.prog 42 #[.pointer (some ⟨B, 0, none⟩), .agg es] w (ChP lo B (n + 1) (chg s x) w) := by
  have hc : x.k = 1 ∨ x.k = 2 ∨ x.k = 3 ∨ (x.k = 4 ∨ x.k = 5 ∨ x.k = 6) ∨ x.k = 7 ∨ x.k = 8 ∨ x.k = 9 ∨ x.k = 10 ∨ x.k = 11 ∨ x.k = 12 ∨ x.k = 13 ∨ x.k = 14 ∨ x.k = 15 ∨ x.k = 16 ∨ x.k = 17 ∨ x.k = 18 ∨ x.k = 19 := by omega
  rcases hc with k | k | k | k | k | k | k | k | k | k | k | k | k | k | k | k | k
  · rw [chg_1 s x k]
    exact chP1 lo B n cs es s x w hg h he hlo k
  · rw [chg_2 s x k]
    exact chP2 lo B n cs es s x w hg h he hlo k
  · rw [chg_3 s x k]
    exact chP3 lo B n cs es s x w hg h he hlo k
  · rw [chg_from s x k]
    by_cases hn : 0 < x.n
    · rw [if_pos hn]
      rcases k with k | k | k
      · exact chP4b lo B n cs es s x w hg h he hlo k hn
      · exact chP5b lo B n cs es s x w hg h he hlo k hn
      · exact chP6b lo B n cs es s x w hg h he hlo k hn
    · rw [if_neg hn]
      rcases k with k | k | k
      · exact chP4a lo B n cs es s x w hg h he hlo k hn
      · exact chP5a lo B n cs es s x w hg h he hlo k hn
      · exact chP6a lo B n cs es s x w hg h he hlo k hn
  · rw [chg_7 s x k]
    exact chP7 lo B n cs es s x w hg h he hlo k
  · rw [chg_8 s x k]
    exact chP8 lo B n cs es s x w hg h he hlo k
  · rw [chg_9 s x k]
    exact chP9 lo B n cs es s x w hg h he hlo k lt
  · rw [chg_10 s x k]
    rcases ixI_cases (fun d : Tm => eqS d.s x.s) s.tm with ⟨j, d, g1, g2, _⟩ | ⟨g1, _⟩
    · exact chP10 lo B n cs es s x w hg h he hlo k lt j g1 (List.getElem?_eq_some_iff.1 g2).1
    · have g1' : tmAt s x.s = -1 := g1
      simp [fitsB, k, g1', dueB] at hf
      revert hf
      cases s.tm[0]? <;> simp
  · rw [chg_11 s x k]
    rcases ixI_cases (fun d : Tm => eqS d.s x.s) s.tm with ⟨j, d, g1, g2, _⟩ | ⟨g1, _⟩
    · exact chP11 lo B n cs es s x w hg h he hlo k lt j g1 (List.getElem?_eq_some_iff.1 g2).1
    · have g1' : tmAt s x.s = -1 := g1
      simp [fitsB, k, g1'] at hf
  · rw [chg_12 s x k]
    exact chP12 lo B n cs es s x w hg h he hlo k lu
  · rw [chg_13 s x k]
    rcases ixI_cases (fun d : Up => eqS d.s x.s && (d.g == 1)) s.up with ⟨j, d, g1, g2, _⟩ | ⟨g1, _⟩
    · exact chP13 lo B n cs es s x w hg h he hlo k lu j g1 (List.getElem?_eq_some_iff.1 g2).1
    · have g1' : waAt s x.s = -1 := g1
      simp [fitsB, k, g1'] at hf
  · rw [chg_14 s x k]
    exact chP14 lo B n cs es s x w hg h he hlo k
  · rw [chg_15 s x k]
    exact chP15 lo B n cs es s x w hg h he hlo k
  · rw [chg_16 s x k]
    exact chP16 lo B n cs es s x w hg h he hlo k
  · rw [chg_17 s x k]
    exact chP17 lo B n cs es s x w hg h he hlo k
  · rw [chg_18 s x k]
    exact chP18 lo B n cs es s x w hg h he hlo k
  · rw [chg_19 s x k]
    exact chP19 lo B n cs es s x w hg h he hlo k
end Go.Proofs.YthphgkaifnacbaaGreat
namespace Go.Proofs.YthphgkaifnacbaaGreat
open Go.ChangeShapes Go.WideShapes Go.ChangeAt Go.RowKit
theorem ret_cell_tmp {fn : Func} {p q : Tmp} {ty : TypeId} (h : fn.results = #[.cell p ty, .tmp q]) (tmps : Array Value) {w : World} {v u : Value} {a : Addr} (hp : tmps.getD p undef = .pointer (some a)) (hq : tmps.getD q undef = u) (hl : (loadVar ty a).run Tryz.prog w = .ok v w) : (results fn tmps).run Tryz.prog w = .ok (.tuple #[v, u]) w := by
  have hp' : tmps[p]?.getD undef = .pointer (some a) := by simpa using hp
  have hq' : tmps[q]?.getD undef = u := by simpa using hq
  simp [results, h, hp', hq', asAddr, hl]
/-- What Step tells: the state and the code. -/
def StR (n : Nat) (s : Sta) (x : Ev) (s' : Sta) (code : Int) : Prop := (MayE n x → code = refC s x) ∧ (¬ MayE n x → code = 1) ∧ s' = if code = 0 then chg s x else s
theorem StR.det {n : Nat} {s s1 s2 : Sta} {x : Ev} {c1 c2 : Int} (h1 : StR n s x s1 c1) (h2 : StR n s x s2 c2) : c1 = c2 ∧ s1 = s2 := by
  obtain ⟨a1, b1, d1⟩ := h1
  obtain ⟨a2, b2, d2⟩ := h2
  have e : c1 = c2 := by
    by_cases hm : MayE n x
    · rw [a1 hm, a2 hm]
    · rw [b1 hm, b2 hm]
  subst e
  exact ⟨rfl, d1.trans d2.symm⟩
def StG (n : Nat) (s : Sta) (x : Ev) (w : World) (e : Ending) (w' : World) : Prop :=
  (∃ cs' code s', e = .returned (.tuple #[.agg cs', .int .i64 code]) ∧ StR (n + 1) s x s' code ∧ Ps (Free w.heap.size w') w' (n + 1) cs' s') ∧ Below w.heap.size w w'
theorem refC_fits {s : Sta} {x : Ev} (h : refC s x = 0) : fitsB s x = true ∧ roomB s x = true ∧ s.count < 120 ∧ inT s x = true ∧ s.time ≤ x.t := by
  unfold refC at h
  split at h
  · omega
  · split at h
    · omega
    · split at h
      · omega
      · split at h
        · omega
        · split at h
          · omega
          · rename_i h1 h2 h3 h4 h5
            exact ⟨by simpa using h4, by simpa using h5, by omega, by simpa using h2, by omega⟩
theorem MayE.kind {n : Nat} {x : Ev} (h : MayE n x) : 1 ≤ x.k ∧ x.k ≤ 19 := by
  have := h.1
  simp [wi] at this
  exact this
/-- A clone ahead of the box B. -/
theorem Og.box {lo B n : Nat} {w w' : World} {cs : Array Value} {s : Sta} (h : Og (fun _ => True) lo w n cs s) (hb : Below w.heap.size w w') (hB : w.heap.size ≤ B) : Og (fun b => b ≠ B) lo w' n cs s := by
  have hR : ∀ v t, IsP (Vk (fun _ => True) lo w cs) w n v t → IsP (Vk (fun b => b ≠ B) lo w' cs) w' n v t := fun v t hv => hv.keep (fun b hlt hk => ⟨by omega, free_keep (hb.block b hlt) hk.2.1, hk.2.2⟩) (fun b hlt _ => hb.block b hlt)
  obtain ⟨a, c, t1, t2⟩ := h.tm
  obtain ⟨ua, uc, us, u1, u2, u3, u4⟩ := h.up
  exact ⟨h.ig.map hR, ⟨a, c, t1, owns_blk t2 (Nat.le_refl _) fun b hb' => hb.block b (t2.lt b hb').2⟩, ⟨ua, uc, us, u1, owns_blk u2 (Nat.le_refl _) fun b hb' => hb.block b (u2.lt b hb').2, u3, fun i r u hr hu => (u4 i r u hr hu).map hR⟩⟩
theorem Og.nb {ok : Nat → Prop} {lo n : Nat} {w : World} {cs : Array Value} {s : Sta} (h : Og ok lo w n cs s) {b : Nat} (hb : w.heap.size ≤ b) : Nb cs b := fun v hv e => by
  obtain ⟨a, c, t1, t2⟩ := h.tm
  obtain ⟨ua, uc, us, u1, u2, _, _⟩ := h.up
  rcases hv with hv | hv
  · rw [t1] at hv; cases hv
    have := (t2.lt b e).2
    omega
  · rw [u1] at hv; cases hv
    have := (u2.lt b e).2
    omega
theorem Ps.low {lo lo' n g : Nat} {w w' : World} {cs : Array Value} {s : Sta} (h : Ps (Free lo w) w n cs s) (hl : lo' ≤ lo) (hk : KB g w w') (hg : g < lo) : Ps (Free lo' w') w' n cs s :=
  h.keep (fun B hB hf => free_keep (ne_blk hk hB (by have := hf.1; omega)) ⟨by have := hf.1; omega, hf.2⟩) fun B hB hf => ne_blk hk hB (by have := hf.1; omega)
set_option maxHeartbeats 4000000 in
set_option maxRecDepth 100000 in
theorem step_calls (n : Nat) (cs es : Array Value) (s : Sta) (x : Ev) (w : World) (h : Rs w (n + 1) cs s) (he : IsEv (Is w (n + 1)) es x) (hc : x.c < 18446744073709551616) (sm : SmS (n + 1) s) (sx : SmallW (n + 1) x.v) (lt : s.tm.length ≤ 500) (lu : s.up.length ≤ 500) :
    Calls Tryz.prog 16 #[.agg cs, .agg es] w (StG n s x w) := by
  have KC : Hid (∀ W, Below w.heap.size w W → Calls Tryz.prog 40 #[.agg cs] W (ClS (n + 1) W s)) := fun W hB => sclone_calls (n + 1) cs s W (h.below hB) sm (by omega) (by omega)
  have KR : Hid (∀ W, Below w.heap.size w W → Calls Tryz.prog 41 #[.agg cs, .agg es] W (RfP (MayE (n + 1) x) s x W)) := fun W hB => refusal_calls n cs es s x W (h.below hB) (he.map fun v t h => h.below hB) hc (by omega) (by omega)
  have KE : Hid (∀ W, Below w.heap.size w W → Calls Tryz.prog 43 #[.agg es] W (EcP (n + 1) W x)) := fun W hB => evcloneA (n + 1) es x W (he.map fun v t h => h.below hB) sx
  have hi33 := info33s cs h.size
  have hi46 := info46s es he.size
  have HQ : Hid (∀ cs' code s' w', StR (n + 1) s x s' code → Ps (Free w.heap.size w') w' (n + 1) cs' s' → Below w.heap.size w w' → StG n s x w (.returned (.tuple #[.agg cs', .int .i64 code])) w') := fun cs' code s' w' a b c => ⟨⟨cs', code, s', rfl, a, b⟩, c⟩
  have HL : Hid (s.tm.length ≤ 500 ∧ s.up.length ≤ 500) := ⟨lt, lu⟩
  clear h he hc sm sx lt lu
  generalize StG n s x w = Q at HQ ⊢
  go_enter Tryz.func16, Tryz.ntmps16
  have b0 : Hid (Below w.heap.size w (((w.alloc (.cells cs 33)).alloc (.cells es 43)).alloc (.cells zS 33))) := bel2 (bel2 (bel1 _ _) (bel1 _ _)) (bel1 _ _)
  have r0 : (((w.alloc (.cells cs 33)).alloc (.cells es 43)).alloc (.cells zS 33)).heap[w.heap.size]? = some (.cells cs 33 (0, 0)) := row_below (bel1 _ _) (heap_alloc2_old _ _ _)
  have r1 : (((w.alloc (.cells cs 33)).alloc (.cells es 43)).alloc (.cells zS 33)).heap[w.heap.size + 1]? = some (.cells es 43 (0, 0)) := row_below (bel1 _ _) (heap_alloc2_new _ _ _)
  have r2 : (((w.alloc (.cells cs 33)).alloc (.cells es 43)).alloc (.cells zS 33)).heap[w.heap.size + 1 + 1]? = some (.cells zS 33 (0, 0)) := by
    have := heap_alloc_new ((w.alloc (.cells cs 33)).alloc (.cells es 43)) (.cells zS 33)
    simpa using this
  go_upto_region 1 with fail
  change Code.wp _ _ _ _ (((w.alloc (.cells cs 33)).alloc (.cells es 43)).alloc (.cells zS 33))
  generalize ((w.alloc (.cells cs 33)).alloc (.cells es 43)).alloc (.cells zS 33) = W0 at b0 r0 r1 r2 ⊢
  go_wp2_with (refine wpList_load_row rfl 33 _ rfl w.heap.size rfl 33 cs (0, 0) _ r0 Tryz.underlying33 rfl hi33 ?_)
  refine (KC.out _ b0.out).mono ?_
  rintro e w1 ⟨⟨c1, rfl, h1⟩, hb⟩
  have hi1 := info33s c1 h1.ig.size
  have z1 : zS.size = c1.size := h1.ig.size.symm
  have a1 := all_one h1.ps.one
  have b1 : Hid (Below w.heap.size w w1) := bel2 b0.out hb
  have s0 := row_below hb r0
  have s1 := row_below hb r1
  have s2 := row_below hb r2
  have H1 : Hid (Og (fun _ => True) W0.heap.size w1 (n + 1) c1 s) := h1
  have n1 : (w1.alloc (.cells zS 33)).heap[w1.heap.size]? = some (.cells zS 33 (0, 0)) := heap_alloc_new w1 _
  have HS1 : Hid (w.heap.size + 1 + 1 < W0.heap.size) := (Array.getElem?_eq_some_iff.1 r2).1
  have HL1 : Hid (W0.heap.size ≤ w1.heap.size) := hb.size
  clear hb r0 r1 r2 h1 KC
  go_upto_region 2 with (refine wpList_store_row rfl 33 _ _ rfl w1.heap.size c1 rfl rfl 33 zS n1 hi1 z1 a1 ?_)
  rw [World.setRow_alloc_new]
  have hb := bel1 w1 (.cells c1 33)
  have t0 := row_below hb s0
  have t1 := row_below hb s1
  have t2 := row_below hb s2
  have t3 : (w1.alloc (.cells c1 33)).heap[w1.heap.size]? = some (.cells c1 33 (0, 0)) := heap_alloc_new w1 _
  have b2 : Hid (Below w.heap.size w (w1.alloc (.cells c1 33))) := bel2 b1.out hb
  have H2 : Hid (Below w1.heap.size w1 (w1.alloc (.cells c1 33))) := hb
  have HZ2 : Hid (w1.heap.size < (w1.alloc (.cells c1 33)).heap.size) := by show _ < _; simp
  clear hb s0 s1 s2 n1
  generalize w1.alloc (.cells c1 33) = W2 at t0 t1 t2 t3 b2 H2 HZ2 ⊢
  go_wp2_with (first | refine wpList_load_row rfl 33 _ rfl w.heap.size rfl 33 cs (0, 0) _ t0 Tryz.underlying33 rfl hi33 ?_ | refine wpList_load_row rfl 43 _ rfl (w.heap.size + 1) rfl 43 es (0, 0) _ t1 Tryz.underlying43 rfl hi46 ?_)
  refine (KR.out _ b2.out).mono ?_
  rintro e w3 ⟨⟨r, rfl, hr1, hr2⟩, hb⟩
  have HRc : Hid ((MayE (n + 1) x → r = refC s x) ∧ (¬ MayE (n + 1) x → r = 1)) := ⟨hr1, hr2⟩
  have u1 := row_below hb t1
  have u2 := row_below hb t2
  have u3 := row_below hb t3
  have b3 : Hid (Below w.heap.size w w3) := bel2 b2.out hb
  have H3 : Hid (Below w1.heap.size w1 w3) := bel2 H2.out hb
  have HZ3 : Hid (w1.heap.size < w3.heap.size) := Nat.lt_of_lt_of_le HZ2.out hb.size
  clear hb t0 t1 t2 t3 H2 HZ2 hr1 hr2
  by_cases hr : r = 0
  · subst hr
    have HM : Hid (MayE (n + 1) x) := by
      show MayE (n + 1) x
      by_cases hm : MayE (n + 1) x
      · exact hm
      · have := HRc.out.2 hm
        omega
    go_wp2_with (refine wpList_load_row rfl 43 _ rfl (w.heap.size + 1) rfl 43 es (0, 0) _ u1 Tryz.underlying43 rfl hi46 ?_)
    refine (KE.out _ b3.out).mono ?_
    rintro e w4 ⟨⟨e1, rfl, h4⟩, hb⟩
    have v2 := row_below hb u2
    have v3 := row_below hb u3
    have b4 : Hid (Below w.heap.size w w4) := bel2 b3.out hb
    have H4 : Below w1.heap.size w1 w4 := bel2 H3.out hb
    have hz := HZ3.out
    have hn := H1.out
    have KG := change_calls W0.heap.size w1.heap.size n c1 e1 s x w4 v3 (H1.out.box H4 (Nat.le_refl _)) (h4.map fun v t hv => hv.keep (fun b _ hf => ⟨by have := hf.1; omega, ⟨by have := hf.1; have := HL1.out; omega, hf.2⟩, hn.nb (by have := hf.1; omega)⟩) (fun _ _ _ => rfl)) HL1.out HM.out.kind (refC_fits (HRc.out.1 HM.out).symm).1 HL.out.1 HL.out.2
    have KG2 : Hid (Calls Tryz.prog 42 #[.pointer (some ⟨w1.heap.size, 0, none⟩), .agg e1] w4 (ChP W0.heap.size w1.heap.size (n + 1) (chg s x) w4)) := KG
    have HW : Hid (W0.heap.size ≤ w4.heap.size) := Nat.le_trans HL1.out H4.size
    have HW0 : Hid (w.heap.size ≤ W0.heap.size) := b0.out.size
    clear hb u1 u2 u3 h4 H4 hz hn KG v3
    go_wp2_with fail
    refine KG2.out.mono ?_
    rintro e w5 ⟨rfl, c5, r5, o5, hb5⟩
    have v5 : w5.heap[w.heap.size + 1 + 1]? = some (.cells zS 33 (0, 0)) := by rw [hb5.block _ HS1.out]; exact v2
    have b5 : Hid (Below w.heap.size w w5) := b4.out.trans (hb5.mono HW0.out)
    have hi5 := info33s c5 o5.ig.size
    have z5 : zS.size = c5.size := o5.ig.size.symm
    have a5 := all_one o5.ps.one
    have HP5 : Hid (Ps (Free W0.heap.size w5) w5 (n + 1) c5 (chg s x)) := o5.ps
    clear KG2 v2 hb5 o5
    go_wp2_with (first | refine wpList_load_row rfl 33 _ rfl w1.heap.size rfl 33 c5 (0, 0) _ r5 Tryz.underlying33 rfl hi5 ?_ | refine wpList_store_row rfl 33 _ _ rfl (w.heap.size + 1 + 1) c5 rfl rfl 33 zS v5 hi5 z5 a5 ?_)
    have k9 := setRow_heap w5 (w.heap.size + 1 + 1) zS c5 33 (0, 0) v5
    have hl : (loadVar 33 ⟨w.heap.size + 1 + 1, 0, none⟩).run Tryz.prog (w5.setRow (w.heap.size + 1 + 1) c5) = .ok (.agg c5) (w5.setRow (w.heap.size + 1 + 1) c5) := run_loadVar_row _ (w.heap.size + 1 + 1) 33 33 c5 (0, 0) _ k9 Tryz.underlying33 rfl hi5
    exact bodyPost_ret (v := .tuple #[.agg c5, .int .i64 0]) (ret_cell_tmp Tryz.results16 _ rfl rfl hl) rfl (HQ.out c5 0 (chg s x) _ ⟨HRc.out.1, HRc.out.2, by rw [if_pos rfl]⟩ (HP5.out.low HW0.out (setRow_kb _ _ _) HS1.out) (below_setRow b5.out (by omega) _))
  · have HN : Hid (r ≠ 0) := hr
    have hre : (r == 0) = false := by simpa using hr
    have HP3 : Hid (Ps (Free W0.heap.size w3) w3 (n + 1) c1 s) := (H1.out.box H3.out (Nat.le_refl _)).ps
    have HW0 : Hid (w.heap.size ≤ W0.heap.size) := b0.out.size
    go_wp2_with (first | refine wpList_load_row rfl 33 _ rfl w1.heap.size rfl 33 c1 (0, 0) _ u3 Tryz.underlying33 rfl hi1 ?_ | refine wpList_store_row rfl 33 _ _ rfl (w.heap.size + 1 + 1) c1 rfl rfl 33 zS u2 hi1 z1 a1 ?_)
    have k9 := setRow_heap w3 (w.heap.size + 1 + 1) zS c1 33 (0, 0) u2
    have hl : (loadVar 33 ⟨w.heap.size + 1 + 1, 0, none⟩).run Tryz.prog (w3.setRow (w.heap.size + 1 + 1) c1) = .ok (.agg c1) (w3.setRow (w.heap.size + 1 + 1) c1) := run_loadVar_row _ (w.heap.size + 1 + 1) 33 33 c1 (0, 0) _ k9 Tryz.underlying33 rfl hi1
    exact bodyPost_ret (v := .tuple #[.agg c1, .int .i64 r]) (ret_cell_tmp Tryz.results16 _ rfl rfl hl) rfl (HQ.out c1 r s _ ⟨HRc.out.1, HRc.out.2, by rw [if_neg HN.out]⟩ (HP3.out.low HW0.out (setRow_kb _ _ _) HS1.out) (below_setRow b3.out (by omega) _))
end Go.Proofs.YthphgkaifnacbaaGreat
namespace Go.Proofs.YthphgkaifnacbaaGreat
open Go.ChangeShapes Go.WideShapes Go.ChangeAt Go.RowKit
/-- From one number to another. -/
def wb (n lo hi : Int) : Bool := decide (lo ≤ n) && decide (n ≤ hi)
def eisName (q : ByteArray) : Ev := ⟨10, 0, 0, 0, q, zE, 0, 0, 0⟩
def eisText (q : ByteArray) : Ev := ⟨16, 0, 0, 0, q, zE, 0, 0, 0⟩
/-- What a test answers, by what it says. -/
def BqP (P : Prop) (w : World) (e : Ending) (w' : World) : Prop := (∃ b : Bool, e = .returned (.bool b) ∧ (b = true ↔ P)) ∧ Below w.heap.size w w'
set_option maxHeartbeats 1000000 in
theorem swithin_calls (n lo hi : Int) (w : World) : Calls Tryz.prog 52 #[.int .i64 n, .int .i64 lo, .int .i64 hi] w fun e w' => e = .returned (.bool (wb n lo hi)) ∧ w' = w := by
  unfold wb
  by_cases h : lo ≤ n
  · have hd : decide (lo ≤ n) = true := decide_eq_true h
    go_enter Tryz.func52, Tryz.ntmps52
    go_wp2_with fail
    go_ret
    exact ⟨by first | rfl | simp [hd], rfl⟩
  · have hd : decide (lo ≤ n) = false := decide_eq_false h
    go_enter Tryz.func52, Tryz.ntmps52
    go_wp2_with fail
    go_ret
    exact ⟨by first | rfl | simp [hd], rfl⟩
/-- The numbers of a state that can be. -/
def numB (s : Sta) : Bool := wb s.run 1 10 && (wb s.fr 0 10 && (wb s.status 1 6 && (wb s.count 1 120 && (wb s.sig 0 s.count && (wb s.time 0 1099511627776 && wb s.dl 0 2199023255552)))))
def tryB (a d : Int) : Bool := wb a 1 2147483648 && wb d 0 2199023255552
set_option maxHeartbeats 2000000 in
set_option maxRecDepth 100000 in
theorem numbersFitS_calls (R : Value → Tv → Prop) (ok : Nat → Prop) (cs : Array Value) (s : Sta) (w : World) (h : IsS ok R w cs s) : Calls Tryz.prog 22 #[.agg cs] w fun e w' => e = .returned (.bool (wb s.run 1 10 && (wb s.fr 0 10 && (wb s.status 1 6 && (wb s.count 1 120 && (wb s.sig 0 s.count && (wb s.time 0 1099511627776 && (wb s.dl 0 2199023255552)))))))) ∧ Below w.heap.size w w' := by
  have K1 : Hid (∀ W, Calls Tryz.prog 52 #[.int .i64 s.run, .int .i64 1, .int .i64 10] W fun e w' => e = .returned (.bool (wb s.run 1 10)) ∧ w' = W) := fun W => swithin_calls _ _ _ W
  have K2 : Hid (∀ W, Calls Tryz.prog 52 #[.int .i64 s.fr, .int .i64 0, .int .i64 10] W fun e w' => e = .returned (.bool (wb s.fr 0 10)) ∧ w' = W) := fun W => swithin_calls _ _ _ W
  have K3 : Hid (∀ W, Calls Tryz.prog 52 #[.int .i64 s.status, .int .i64 1, .int .i64 6] W fun e w' => e = .returned (.bool (wb s.status 1 6)) ∧ w' = W) := fun W => swithin_calls _ _ _ W
  have K4 : Hid (∀ W, Calls Tryz.prog 52 #[.int .i64 s.count, .int .i64 1, .int .i64 120] W fun e w' => e = .returned (.bool (wb s.count 1 120)) ∧ w' = W) := fun W => swithin_calls _ _ _ W
  have K5 : Hid (∀ W, Calls Tryz.prog 52 #[.int .i64 s.sig, .int .i64 0, .int .i64 s.count] W fun e w' => e = .returned (.bool (wb s.sig 0 s.count)) ∧ w' = W) := fun W => swithin_calls _ _ _ W
  have K6 : Hid (∀ W, Calls Tryz.prog 52 #[.int .i64 s.time, .int .i64 0, .int .i64 1099511627776] W fun e w' => e = .returned (.bool (wb s.time 0 1099511627776)) ∧ w' = W) := fun W => swithin_calls _ _ _ W
  have K7 : Hid (∀ W, Calls Tryz.prog 52 #[.int .i64 s.dl, .int .i64 0, .int .i64 2199023255552] W fun e w' => e = .returned (.bool (wb s.dl 0 2199023255552)) ∧ w' = W) := fun W => swithin_calls _ _ _ W
  have HQ : Hid (∀ b, b = (wb s.run 1 10 && (wb s.fr 0 10 && (wb s.status 1 6 && (wb s.count 1 120 && (wb s.sig 0 s.count && (wb s.time 0 1099511627776 && (wb s.dl 0 2199023255552))))))) → (fun e w' => e = Ending.returned (.bool (wb s.run 1 10 && (wb s.fr 0 10 && (wb s.status 1 6 && (wb s.count 1 120 && (wb s.sig 0 s.count && (wb s.time 0 1099511627776 && (wb s.dl 0 2199023255552)))))))) ∧ Below w.heap.size w w') (.returned (.bool b)) (w.alloc (.cells cs 33))) := fun b h => ⟨by rw [h], bel1 _ _⟩
  generalize wb s.run 1 10 = b1 at K1 HQ ⊢
  generalize wb s.fr 0 10 = b2 at K2 HQ ⊢
  generalize wb s.status 1 6 = b3 at K3 HQ ⊢
  generalize wb s.count 1 120 = b4 at K4 HQ ⊢
  generalize wb s.sig 0 s.count = b5 at K5 HQ ⊢
  generalize wb s.time 0 1099511627776 = b6 at K6 HQ ⊢
  generalize wb s.dl 0 2199023255552 = b7 at K7 HQ ⊢
  generalize (fun e w' => e = Ending.returned (.bool (b1 && (b2 && (b3 && (b4 && (b5 && (b6 && (b7)))))))) ∧ Below w.heap.size w w') = Q at HQ ⊢
  have c0 := h.c0
  have c1 := h.c1
  have c2 := h.c2
  have c3 := h.c3
  have c4 := h.c4
  have c5 := h.c5
  have c6 := h.c6
  clear h
  go_enter Tryz.func22, Tryz.ntmps22
  go_wp2_with fail
  refine (K1.out _).mono ?_
  rintro e w1 ⟨rfl, rfl⟩
  cases b1 with
  | false =>
    go_wp2_with fail
    exact HQ.out _ (by simp)
  | true =>
    go_wp2_with fail
    refine (K2.out _).mono ?_
    rintro e w2 ⟨rfl, rfl⟩
    cases b2 with
    | false =>
      go_wp2_with fail
      exact HQ.out _ (by simp)
    | true =>
      go_wp2_with fail
      refine (K3.out _).mono ?_
      rintro e w3 ⟨rfl, rfl⟩
      cases b3 with
      | false =>
        go_wp2_with fail
        exact HQ.out _ (by simp)
      | true =>
        go_wp2_with fail
        refine (K4.out _).mono ?_
        rintro e w4 ⟨rfl, rfl⟩
        cases b4 with
        | false =>
          go_wp2_with fail
          exact HQ.out _ (by simp)
        | true =>
          go_wp2_with fail
          refine (K5.out _).mono ?_
          rintro e w5 ⟨rfl, rfl⟩
          cases b5 with
          | false =>
            go_wp2_with fail
            exact HQ.out _ (by simp)
          | true =>
            go_wp2_with fail
            refine (K6.out _).mono ?_
            rintro e w6 ⟨rfl, rfl⟩
            cases b6 with
            | false =>
              go_wp2_with fail
              exact HQ.out _ (by simp)
            | true =>
              go_wp2_with fail
              refine (K7.out _).mono ?_
              rintro e w7 ⟨rfl, rfl⟩
              go_wp2_with fail
              exact HQ.out _ (by simp)
set_option maxHeartbeats 2000000 in
set_option maxRecDepth 100000 in
theorem tryFits_calls (st a d e n : Int) (w : World) : Calls Tryz.prog 58 #[.agg #[.int .i64 st, .int .i64 a, .int .i64 d, .int .i64 e, .int .i64 n]] w fun e w' => e = .returned (.bool (wb a 1 2147483648 && (wb d 0 2199023255552))) ∧ Below w.heap.size w w' := by
  have K1 : Hid (∀ W, Calls Tryz.prog 52 #[.int .i64 a, .int .i64 1, .int .i64 2147483648] W fun e w' => e = .returned (.bool (wb a 1 2147483648)) ∧ w' = W) := fun W => swithin_calls _ _ _ W
  have K2 : Hid (∀ W, Calls Tryz.prog 52 #[.int .i64 d, .int .i64 0, .int .i64 2199023255552] W fun e w' => e = .returned (.bool (wb d 0 2199023255552)) ∧ w' = W) := fun W => swithin_calls _ _ _ W
  have HQ : Hid (∀ b, b = (wb a 1 2147483648 && (wb d 0 2199023255552)) → (fun e w' => e = Ending.returned (.bool (wb a 1 2147483648 && (wb d 0 2199023255552))) ∧ Below w.heap.size w w') (.returned (.bool b)) (w.alloc (.cells #[.int .i64 st, .int .i64 a, .int .i64 d, .int .i64 e, .int .i64 n] 29))) := fun b h => ⟨by rw [h], bel1 _ _⟩
  generalize wb a 1 2147483648 = b1 at K1 HQ ⊢
  generalize wb d 0 2199023255552 = b2 at K2 HQ ⊢
  generalize (fun e w' => e = Ending.returned (.bool (b1 && (b2))) ∧ Below w.heap.size w w') = Q at HQ ⊢
  go_enter Tryz.func58, Tryz.ntmps58
  go_wp2_with fail
  refine (K1.out _).mono ?_
  rintro e w1 ⟨rfl, rfl⟩
  cases b1 with
  | false =>
    go_wp2_with fail
    exact HQ.out _ (by simp)
  | true =>
    go_wp2_with fail
    refine (K2.out _).mono ?_
    rintro e w2 ⟨rfl, rfl⟩
    go_wp2_with fail
    exact HQ.out _ (by simp)
set_option maxHeartbeats 2000000 in
set_option maxRecDepth 100000 in
theorem isName_calls (n : Nat) (q : ByteArray) (w : World) : Calls Tryz.prog 53 #[.string q] w (BqP (MayE (n + 1) (eisName q)) w) := by
  have K : Hid (Calls Tryz.prog 69 #[.agg #[.int .i64 10, .int .i64 0, .int .i64 0, .int .i64 0, .string q, .int .i64 0, .int .i64 0, .int .u64 0, .string ⟨#[]⟩, .slice none 0 0, .int .i64 0, .int .u64 0, .int .i64 0]] w (CkP (MayE (n + 1) (eisName q)) w)) := evcheckA n _ (eisName q) w { size := rfl, c0 := rfl, c1 := rfl, c2 := rfl, c3 := rfl, c4 := rfl, v := ⟨0, 0, 0, ⟨#[]⟩, none, 0, 0, rfl, rfl, rfl, rfl, rfl, zE_is w n⟩, c10 := rfl, c11 := rfl, c12 := rfl } (by show (0 : Nat) < _; decide)
  have HQ : Hid (∀ (b : Bool) w', (b = true ↔ MayE (n + 1) (eisName q)) → Below w.heap.size w w' → BqP (MayE (n + 1) (eisName q)) w (.returned (.bool b)) w') := fun b w' h hb => ⟨⟨b, rfl, h⟩, hb⟩
  generalize BqP (MayE (n + 1) (eisName q)) w = Q at HQ ⊢
  generalize MayE (n + 1) (eisName q) = M at K HQ
  go_enter Tryz.func53, Tryz.ntmps53
  go_wp2_with fail
  refine K.out.mono ?_
  rintro e w1 ⟨r, rfl, h0, h1, hb⟩
  by_cases hM : M
  · obtain rfl := h0 hM
    have HM : Hid M := hM
    have HB : Hid (Below w.heap.size w w1) := hb
    clear h0 h1 hM hb K
    go_wp2_with fail
    exact HQ.out _ _ ⟨fun _ => HM.out, fun _ => rfl⟩ HB.out
  · obtain rfl := h1 hM
    have HM : Hid (¬ M) := hM
    have HB : Hid (Below w.heap.size w w1) := hb
    clear h0 h1 hM hb K
    go_wp2_with fail
    exact HQ.out _ _ ⟨fun h => (by cases h), fun h => absurd h HM.out⟩ HB.out
set_option maxHeartbeats 2000000 in
set_option maxRecDepth 100000 in
theorem isText_calls (n : Nat) (q : ByteArray) (w : World) : Calls Tryz.prog 85 #[.string q] w (BqP (MayE (n + 1) (eisText q)) w) := by
  have K : Hid (Calls Tryz.prog 69 #[.agg #[.int .i64 16, .int .i64 0, .int .i64 0, .int .i64 0, .string q, .int .i64 0, .int .i64 0, .int .u64 0, .string ⟨#[]⟩, .slice none 0 0, .int .i64 0, .int .u64 0, .int .i64 0]] w (CkP (MayE (n + 1) (eisText q)) w)) := evcheckA n _ (eisText q) w { size := rfl, c0 := rfl, c1 := rfl, c2 := rfl, c3 := rfl, c4 := rfl, v := ⟨0, 0, 0, ⟨#[]⟩, none, 0, 0, rfl, rfl, rfl, rfl, rfl, zE_is w n⟩, c10 := rfl, c11 := rfl, c12 := rfl } (by show (0 : Nat) < _; decide)
  have HQ : Hid (∀ (b : Bool) w', (b = true ↔ MayE (n + 1) (eisText q)) → Below w.heap.size w w' → BqP (MayE (n + 1) (eisText q)) w (.returned (.bool b)) w') := fun b w' h hb => ⟨⟨b, rfl, h⟩, hb⟩
  generalize BqP (MayE (n + 1) (eisText q)) w = Q at HQ ⊢
  generalize MayE (n + 1) (eisText q) = M at K HQ
  go_enter Tryz.func85, Tryz.ntmps85
  go_wp2_with fail
  refine K.out.mono ?_
  rintro e w1 ⟨r, rfl, h0, h1, hb⟩
  by_cases hM : M
  · obtain rfl := h0 hM
    have HM : Hid M := hM
    have HB : Hid (Below w.heap.size w w1) := hb
    clear h0 h1 hM hb K
    go_wp2_with fail
    exact HQ.out _ _ ⟨fun _ => HM.out, fun _ => rfl⟩ HB.out
  · obtain rfl := h1 hM
    have HM : Hid (¬ M) := hM
    have HB : Hid (Below w.heap.size w w1) := hb
    clear h0 h1 hM hb K
    go_wp2_with fail
    exact HQ.out _ _ ⟨fun h => (by cases h), fun h => absurd h HM.out⟩ HB.out
set_option maxHeartbeats 2000000 in
set_option maxRecDepth 100000 in
theorem mayBe_calls (n : Nat) (t : Tv) (k0 x0 b0 : Int) (s0 : ByteArray) (a0 : Option Addr) (m0 n0 : Nat) (w : World) (h : Is w n (.agg #[.int .i64 k0, .int .i64 x0, .int .u64 b0, .string s0, .slice a0 m0 n0]) t) : Calls Tryz.prog 54 #[.agg #[.int .i64 k0, .int .i64 x0, .int .u64 b0, .string s0, .slice a0 m0 n0]] w (BqP (May n t) w) := by
  have K : Hid (Calls Tryz.prog 81 #[.agg #[.int .i64 k0, .int .i64 x0, .int .u64 b0, .string s0, .slice a0 m0 n0]] (w.alloc (.cells #[.int .i64 k0, .int .i64 x0, .int .u64 b0, .string s0, .slice a0 m0 n0] 25)) _) := check_calls n _ t _ (h.below (bel1 w _))
  have HQ : Hid (∀ (b : Bool) w', (b = true ↔ May n t) → Below w.heap.size w w' → BqP (May n t) w (.returned (.bool b)) w') := fun b w' h hb => ⟨⟨b, rfl, h⟩, hb⟩
  generalize BqP (May n t) w = Q at HQ ⊢
  generalize May n t = M at K HQ
  clear h
  go_enter Tryz.func54, Tryz.ntmps54
  go_wp2_with fail
  refine K.out.mono ?_
  rintro e w1 ⟨⟨r, rfl, h0, h1⟩, hb⟩
  by_cases hM : M
  · obtain rfl := h0 hM
    have HM : Hid M := hM
    have HB : Hid (Below w.heap.size w w1) := bel2 (bel1 _ _) hb
    clear h0 h1 hM hb K
    go_wp2_with fail
    exact HQ.out _ _ ⟨fun _ => HM.out, fun _ => rfl⟩ HB.out
  · obtain rfl := h1 hM
    have HM : Hid (¬ M) := hM
    have HB : Hid (Below w.heap.size w w1) := bel2 (bel1 _ _) hb
    clear h0 h1 hM hb K
    go_wp2_with fail
    exact HQ.out _ _ ⟨fun h => (by cases h), fun h => absurd h HM.out⟩ HB.out
set_option maxHeartbeats 2000000 in
set_option maxRecDepth 100000 in
theorem isZero_calls (n : Nat) (t : Tv) (k0 x0 b0 : Int) (s0 : ByteArray) (a0 : Option Addr) (m0 n0 : Nat) (w : World) (h : Is w (n + 1) (.agg #[.int .i64 k0, .int .i64 x0, .int .u64 b0, .string s0, .slice a0 m0 n0]) t) : Calls Tryz.prog 84 #[.agg #[.int .i64 k0, .int .i64 x0, .int .u64 b0, .string s0, .slice a0 m0 n0]] w (BqP (t = zE) w) := by
  have K : Hid (Calls Tryz.prog 36 #[.agg #[.int .i64 k0, .int .i64 x0, .int .u64 b0, .string s0, .slice a0 m0 n0], .agg #[.int .i64 0, .int .i64 0, .int .u64 0, .string ⟨#[]⟩, .slice none 0 0]] (w.alloc (.cells #[.int .i64 k0, .int .i64 x0, .int .u64 b0, .string s0, .slice a0 m0 n0] 25)) _) := same_calls (n + 1) _ t _ zE _ (h.below (bel1 w _)) (zE_is _ n)
  have HQ : Hid (∀ (b : Bool) w', (b = true ↔ t = zE) → Below w.heap.size w w' → BqP (t = zE) w (.returned (.bool b)) w') := fun b w' h hb => ⟨⟨b, rfl, h⟩, hb⟩
  generalize BqP (t = zE) w = Q at HQ ⊢
  clear h
  go_enter Tryz.func84, Tryz.ntmps84
  go_wp2_with fail
  refine K.out.mono ?_
  rintro e w1 ⟨⟨r, rfl, h0⟩, hb⟩
  have HM : Hid (r = true ↔ t = zE) := h0
  have HB : Hid (Below w.heap.size w w1) := bel2 (bel1 _ _) hb
  clear h0 hb K
  go_wp2_with fail
  exact HQ.out _ _ HM.out HB.out
end Go.Proofs.YthphgkaifnacbaaGreat
namespace Go.Proofs.YthphgkaifnacbaaGreat
open Go.ChangeShapes Go.WideShapes Go.ChangeAt Go.RowKit
/-- What was started with may be. -/
def StartP (n : Nat) (s : Sta) : Prop := MayE n (eisName s.typ) ∧ May n s.inp ∧ may s.pf s.pc s.pm = true
def ResultP (n : Nat) (s : Sta) : Prop := if s.status = 2 then May n s.res else s.res = zE
def ReasonP (n : Nat) (s : Sta) : Prop := if s.status = 3 ∨ s.status = 5 then MayE n (eisText s.rea) else s.rea.toList = []
theorem bq_mk {P : Prop} {w w' : World} {b : Bool} (h : b = true ↔ P) (hb : Below w.heap.size w w') : BqP P w (.returned (.bool b)) w' := ⟨⟨b, rfl, h⟩, hb⟩
set_option maxHeartbeats 2000000 in
set_option maxRecDepth 100000 in
theorem startFits_calls (n : Nat) (cs : Array Value) (s : Sta) (w : World) (h : Rs w (n + 1) cs s) (hc : s.pc < 18446744073709551616) : Calls Tryz.prog 23 #[.agg cs] w (BqP (StartP (n + 1) s) w) := by
  obtain ⟨k0, x0, b0, s0, a0, m0, n0, h8, h9, h10, h11, h12, hv⟩ := h.inp
  have c7 := h.c7
  have c13 := h.c13
  have c14 := h.c14
  have c15 := h.c15
  have K1 : Hid (∀ W, Calls Tryz.prog 53 #[.string s.typ] W (BqP (MayE (n + 1) (eisName s.typ)) W)) := fun W => isName_calls n s.typ W
  have K2 : Hid (∀ W, Below w.heap.size w W → Calls Tryz.prog 54 #[.agg #[.int .i64 k0, .int .i64 x0, .int .u64 b0, .string s0, .slice a0 m0 n0]] W (BqP (May (n + 1) s.inp) W)) := fun W hb => mayBe_calls (n + 1) s.inp k0 x0 b0 s0 a0 m0 n0 W (hv.below hb)
  have K3 : Hid (∀ W, Calls Tryz.prog 55 #[.agg #[.int .i64 s.pf, .int .u64 (s.pc : Int), .int .i64 s.pm]] W fun e w' => e = .returned (.int .i64 (ce (may s.pf s.pc s.pm))) ∧ Below W.heap.size W w') := fun W => pcheck_calls s.pf s.pc s.pm hc W
  have HQ : Hid (∀ (b : Bool) w', (b = true ↔ (MayE (n + 1) (eisName s.typ) ∧ May (n + 1) s.inp ∧ may s.pf s.pc s.pm = true)) → Below w.heap.size w w' → BqP (StartP (n + 1) s) w (.returned (.bool b)) w') := fun b w' h hb => bq_mk h hb
  generalize BqP (StartP (n + 1) s) w = Q at HQ ⊢
  generalize MayE (n + 1) (eisName s.typ) = M1 at K1 HQ
  generalize May (n + 1) s.inp = M2 at K2 HQ
  generalize may s.pf s.pc s.pm = b3 at K3 HQ
  clear h hc hv
  go_enter Tryz.func23, Tryz.ntmps23
  go_wp2_with fail
  refine (K1.out _).mono ?_
  rintro e w1 ⟨⟨b1, rfl, i1⟩, hB1⟩
  have H1 : Hid (b1 = true ↔ M1) := i1
  have HB1 : Hid (Below w.heap.size w w1) := bel2 (bel1 _ _) hB1
  have g1 : ∀ j, w1.cell? ⟨w.heap.size, j, none⟩ = cs[j]? := fun j => cell_of_row w1 _ j cs 33 (0, 0) (row_below hB1 (heap_alloc_new _ _))
  have hr1 : Hid (w1.heap[w.heap.size]? = some (.cells cs 33 (0, 0))) := row_below hB1 (heap_alloc_new _ _)
  clear i1 hB1 K1
  cases b1 with
  | false =>
    go_wp2_with fail
    exact HQ.out _ _ ⟨fun h => (by cases h), fun h => H1.out.2 h.1⟩ HB1.out
  | true =>
    go_wp2_with fail
    refine (K2.out _ HB1.out).mono ?_
    rintro e w2 ⟨⟨b2, rfl, i2⟩, hB2⟩
    have H2 : Hid (b2 = true ↔ M2) := i2
    have HB2 : Hid (Below w.heap.size w w2) := bel2 HB1.out hB2
    have g2 : ∀ j, w2.cell? ⟨w.heap.size, j, none⟩ = cs[j]? := fun j => cell_of_row w2 _ j cs 33 (0, 0) (row_below hB2 hr1.out)
    clear i2 hB2 K2 g1 HB1 hr1
    cases b2 with
    | false =>
      go_wp2_with fail
      exact HQ.out _ _ ⟨fun h => (by cases h), fun h => H2.out.2 h.2.1⟩ HB2.out
    | true =>
      go_wp2_with fail
      refine (K3.out _).mono ?_
      rintro e w3 ⟨rfl, hB3⟩
      have HB3 : Hid (Below w.heap.size w w3) := bel2 HB2.out hB3
      clear hB3 K3 g2 HB2
      cases b3 with
      | false =>
        unfold ce
        go_wp2_with fail
        exact HQ.out _ _ ⟨fun h => (by cases h), fun h => h.2.2⟩ HB3.out
      | true =>
        unfold ce
        go_wp2_with fail
        exact HQ.out _ _ ⟨fun _ => ⟨H1.out.1 (by first | rfl | trivial), H2.out.1 (by first | rfl | trivial), (by first | rfl | trivial)⟩, fun _ => rfl⟩ HB3.out
set_option maxHeartbeats 2000000 in
set_option maxRecDepth 100000 in
theorem resultFits_calls (n : Nat) (cs : Array Value) (s : Sta) (w : World) (h : Rs w (n + 1) cs s) : Calls Tryz.prog 56 #[.agg cs] w (BqP (ResultP (n + 1) s) w) := by
  obtain ⟨k0, x0, b0, s0, a0, m0, n0, h25, h26, h27, h28, h29, hv⟩ := h.res
  have c1 := h.c1
  have K2 : Hid (∀ W, Below w.heap.size w W → Calls Tryz.prog 54 #[.agg #[.int .i64 k0, .int .i64 x0, .int .u64 b0, .string s0, .slice a0 m0 n0]] W (BqP (May (n + 1) s.res) W)) := fun W hb => mayBe_calls (n + 1) s.res k0 x0 b0 s0 a0 m0 n0 W (hv.below hb)
  have K3 : Hid (∀ W, Below w.heap.size w W → Calls Tryz.prog 84 #[.agg #[.int .i64 k0, .int .i64 x0, .int .u64 b0, .string s0, .slice a0 m0 n0]] W (BqP (s.res = zE) W)) := fun W hb => isZero_calls n s.res k0 x0 b0 s0 a0 m0 n0 W (hv.below hb)
  have HQ : Hid (∀ (b : Bool) w', (b = true ↔ if s.status = 2 then May (n + 1) s.res else s.res = zE) → Below w.heap.size w w' → BqP (ResultP (n + 1) s) w (.returned (.bool b)) w') := fun b w' h hb => bq_mk h hb
  generalize BqP (ResultP (n + 1) s) w = Q at HQ ⊢
  generalize May (n + 1) s.res = M1 at K2 HQ
  generalize (s.res = zE) = M2 at K3 HQ
  generalize s.status = z at c1 HQ
  clear h hv
  by_cases hz : z = 2
  · subst hz
    have HQ1 : Hid (∀ (b : Bool) w', (b = true ↔ M1) → Below w.heap.size w w' → Q (.returned (.bool b)) w') := fun b w' h hb => HQ.out b w' (by simpa using h) hb
    clear HQ K3
    go_enter Tryz.func56, Tryz.ntmps56
    go_wp2_with fail
    refine (K2.out _ (bel1 _ _)).mono ?_
    rintro e w2 ⟨⟨b2, rfl, i2⟩, hB2⟩
    have H2 : Hid (b2 = true ↔ M1) := i2
    have HB2 : Hid (Below w.heap.size w w2) := bel2 (bel1 _ _) hB2
    clear i2 hB2 K2
    go_wp2_with fail
    exact HQ1.out _ _ H2.out HB2.out
  · have hb' : (z == 2) = false := by simpa using hz
    have HQ1 : Hid (∀ (b : Bool) w', (b = true ↔ M2) → Below w.heap.size w w' → Q (.returned (.bool b)) w') := fun b w' h hb => HQ.out b w' (by simpa [hz] using h) hb
    clear HQ K2 hz
    go_enter Tryz.func56, Tryz.ntmps56
    go_wp2_with fail
    refine (K3.out _ (bel1 _ _)).mono ?_
    rintro e w2 ⟨⟨b2, rfl, i2⟩, hB2⟩
    have H2 : Hid (b2 = true ↔ M2) := i2
    have HB2 : Hid (Below w.heap.size w w2) := bel2 (bel1 _ _) hB2
    clear i2 hB2 K3
    go_wp2_with fail
    exact HQ1.out _ _ H2.out HB2.out
set_option maxHeartbeats 2000000 in
set_option maxRecDepth 100000 in
theorem reasonFits_calls (n : Nat) (cs : Array Value) (s : Sta) (w : World) (h : Rs w (n + 1) cs s) : Calls Tryz.prog 57 #[.agg cs] w (BqP (ReasonP (n + 1) s) w) := by
  have c1 := h.c1
  have c30 := h.c30
  have K2 : Hid (∀ W, Calls Tryz.prog 85 #[.string s.rea] W (BqP (MayE (n + 1) (eisText s.rea)) W)) := fun W => isText_calls n s.rea W
  have HQ : Hid (∀ (b : Bool) w', (b = true ↔ if s.status = 3 ∨ s.status = 5 then MayE (n + 1) (eisText s.rea) else s.rea.toList = []) → Below w.heap.size w w' → BqP (ReasonP (n + 1) s) w (.returned (.bool b)) w') := fun b w' h hb => bq_mk h hb
  generalize BqP (ReasonP (n + 1) s) w = Q at HQ ⊢
  generalize MayE (n + 1) (eisText s.rea) = M1 at K2 HQ
  generalize s.status = z at c1 HQ
  generalize s.rea = q at c30 K2 HQ
  clear h
  by_cases hz : z = 3 ∨ z = 5
  · have HQ1 : Hid (∀ (b : Bool) w', (b = true ↔ M1) → Below w.heap.size w w' → Q (.returned (.bool b)) w') := fun b w' h hb => HQ.out b w' (by simpa [hz] using h) hb
    clear HQ
    rcases hz with rfl | rfl
    all_goals
      go_enter Tryz.func57, Tryz.ntmps57
      go_wp2_with fail
      refine (K2.out _).mono ?_
      rintro e w2 ⟨⟨b2, rfl, i2⟩, hB2⟩
      have H2 : Hid (b2 = true ↔ M1) := i2
      have HB2 : Hid (Below w.heap.size w w2) := bel2 (bel1 _ _) hB2
      clear i2 hB2 K2
      go_wp2_with fail
      exact HQ1.out _ _ H2.out HB2.out
  · have hb3 : (z == 3) = false := by simp only [not_or] at hz; simpa using hz.1
    have hb5 : (z == 5) = false := by simp only [not_or] at hz; simpa using hz.2
    have HQ1 : Hid (∀ (b : Bool) w', (b = true ↔ q.toList = []) → Below w.heap.size w w' → Q (.returned (.bool b)) w') := fun b w' h hb => HQ.out b w' (by simpa [hz] using h) hb
    clear HQ K2 hz
    go_enter Tryz.func57, Tryz.ntmps57
    go_wp2_with fail
    exact HQ1.out _ _ (by simp) (bel1 _ _)
end Go.Proofs.YthphgkaifnacbaaGreat
namespace Go.Proofs.YthphgkaifnacbaaGreat
open Go.ChangeShapes Go.WideShapes Go.ChangeAt Go.RowKit
/-- An update's outcome goes with its stage. -/
def OutP (n : Nat) (u : Up) : Prop := if u.g = 1 then u.o = zE else if u.g = 2 then May n u.o else False
/-- What a state has by its status. -/
def EndP (n : Nat) (s : Sta) : Prop := (s.status = 1 ∨ (s.ts = 0 ∧ s.tm.length = 0)) ∧ ResultP n s ∧ ReasonP n s
/-- A task that may be. -/
def TaskP (s : Sta) : Prop := (s.ts = 0 ∧ s.ta = 0 ∧ s.td = 0 ∧ s.te = 0 ∧ s.tn = 0) ∨ (s.ts = 1 ∧ tryB s.ta s.td = true ∧ s.te = 0 ∧ s.tn = 0) ∨ (s.ts = 2 ∧ tryB s.ta s.td = true ∧ wb s.te 1 s.count = true ∧ s.tn = s.te)
/-- What endFits stands upon. -/
structure EnK (cs : Array Value) (z ts : Int) (m : Nat) (M1 M2 : Prop) (w : World) : Prop where
  i33 : (Tryz.prog.info? 33).map (·.size) = some cs.size
  c1 : cs[1]? = some (.int .i64 z)
  c16 : cs[16]? = some (.int .i64 ts)
  c23 : ∃ a c, cs[23]? = some (.slice a m c)
  k2 : ∀ W, Below w.heap.size w W → Calls Tryz.prog 56 #[.agg cs] W (BqP M1 W)
  k3 : ∀ W, Below w.heap.size w W → Calls Tryz.prog 57 #[.agg cs] W (BqP M2 W)
def EnQ (M1 M2 : Prop) (w : World) : Ending → World → Prop := BqP (M1 ∧ M2) w
theorem enq {M1 M2 : Prop} {w : World} {b : Bool} {w' : World} (h : b = true ↔ (M1 ∧ M2)) (hb : Below w.heap.size w w') : EnQ M1 M2 w (.returned (.bool b)) w' := bq_mk h hb
set_option maxHeartbeats 2000000 in
set_option maxRecDepth 100000 in
theorem outcomeFits_calls (n : Nat) (us : Array Value) (u : Up) (w : World) (h : IsU (Is w (n + 1)) us u) : Calls Tryz.prog 59 #[.agg us] w (BqP (OutP (n + 1) u) w) := by
  obtain ⟨k0, x0, b0, s0, a0, m0, n0, h7, h8, h9, h10, h11, hv⟩ := h.o
  have c6 := h.c6
  have K2 : Hid (∀ W, Below w.heap.size w W → Calls Tryz.prog 54 #[.agg #[.int .i64 k0, .int .i64 x0, .int .u64 b0, .string s0, .slice a0 m0 n0]] W (BqP (May (n + 1) u.o) W)) := fun W hb => mayBe_calls (n + 1) u.o k0 x0 b0 s0 a0 m0 n0 W (hv.below hb)
  have K3 : Hid (∀ W, Below w.heap.size w W → Calls Tryz.prog 84 #[.agg #[.int .i64 k0, .int .i64 x0, .int .u64 b0, .string s0, .slice a0 m0 n0]] W (BqP (u.o = zE) W)) := fun W hb => isZero_calls n u.o k0 x0 b0 s0 a0 m0 n0 W (hv.below hb)
  have HQ : Hid (∀ (b : Bool) w', (b = true ↔ if u.g = 1 then u.o = zE else if u.g = 2 then May (n + 1) u.o else False) → Below w.heap.size w w' → BqP (OutP (n + 1) u) w (.returned (.bool b)) w') := fun b w' h hb => bq_mk h hb
  generalize BqP (OutP (n + 1) u) w = Q at HQ ⊢
  generalize May (n + 1) u.o = M1 at K2 HQ
  generalize (u.o = zE) = M2 at K3 HQ
  generalize u.g = z at c6 HQ
  clear h hv
  by_cases hz : z = 1
  · subst hz
    have HQ1 : Hid (∀ (b : Bool) w', (b = true ↔ M2) → Below w.heap.size w w' → Q (.returned (.bool b)) w') := fun b w' h hb => HQ.out b w' (by simpa using h) hb
    clear HQ K2
    go_enter Tryz.func59, Tryz.ntmps59
    go_wp2_with fail
    refine (K3.out _ (bel1 _ _)).mono ?_
    rintro e w2 ⟨⟨b2, rfl, i2⟩, hB2⟩
    have H2 : Hid (b2 = true ↔ M2) := i2
    have HB2 : Hid (Below w.heap.size w w2) := bel2 (bel1 _ _) hB2
    clear i2 hB2 K3
    go_wp2_with fail
    exact HQ1.out _ _ H2.out HB2.out
  · have hb' : (z == 1) = false := by simpa using hz
    by_cases hz2 : z = 2
    · subst hz2
      have HQ1 : Hid (∀ (b : Bool) w', (b = true ↔ M1) → Below w.heap.size w w' → Q (.returned (.bool b)) w') := fun b w' h hb => HQ.out b w' (by simpa using h) hb
      clear HQ K3
      go_enter Tryz.func59, Tryz.ntmps59
      go_wp2_with fail
      refine (K2.out _ (bel1 _ _)).mono ?_
      rintro e w2 ⟨⟨b2, rfl, i2⟩, hB2⟩
      have H2 : Hid (b2 = true ↔ M1) := i2
      have HB2 : Hid (Below w.heap.size w w2) := bel2 (bel1 _ _) hB2
      clear i2 hB2 K2
      go_wp2_with fail
      exact HQ1.out _ _ H2.out HB2.out
    · have hb2 : (z == 2) = false := by simpa using hz2
      have HQ1 : Hid (∀ w', Below w.heap.size w w' → Q (.returned (.bool false)) w') := fun w' hb => HQ.out false w' (by simp [hz, hz2]) hb
      clear HQ K2 K3 hz hz2
      go_enter Tryz.func59, Tryz.ntmps59
      go_wp2_with fail
      exact HQ1.out _ (bel1 _ _)
set_option maxHeartbeats 4000000 in
set_option maxRecDepth 100000 in
theorem endRun_calls (cs : Array Value) (z ts : Int) (m : Nat) (M1 M2 : Prop) (w : World) (h : EnK cs z ts m M1 M2 w) (hz : z = 1) : Calls Tryz.prog 24 #[.agg cs] w (EnQ M1 M2 w) := by
  subst hz
  have hi33 := h.i33
  have K1 : Hid (∀ W, Calls Tryz.prog 13 #[.agg cs] W (BoP true W)) := fun W => running_calls cs 1 W h.c1
  have K2 : Hid (∀ W, Below w.heap.size w W → Calls Tryz.prog 56 #[.agg cs] W (BqP M1 W)) := h.k2
  have K3 : Hid (∀ W, Below w.heap.size w W → Calls Tryz.prog 57 #[.agg cs] W (BqP M2 W)) := h.k3
  have HQ1 : Hid (∀ (b : Bool) w', (b = true ↔ (M1 ∧ M2)) → Below w.heap.size w w' → EnQ M1 M2 w (.returned (.bool b)) w') := fun b w' h hb => enq h hb
  generalize EnQ M1 M2 w = Q at HQ1 ⊢
  clear h
  have hr0 : (w.alloc (.cells cs 33)).heap[w.heap.size]? = some (.cells cs 33 (0, 0)) := heap_alloc_new _ _
  go_enter Tryz.func24, Tryz.ntmps24
  go_wp2_with (refine wpList_load_rowG rfl 33 _ rfl w.heap.size rfl 33 cs (0, 0) _ hr0 Tryz.underlying33 rfl hi33 ?_)
  refine (K1.out _).mono ?_
  rintro e w1 ⟨rfl, hb⟩
  have HB1 : Hid (Below w.heap.size w w1) := bel2 (bel1 _ _) hb
  have hr1 : w1.heap[w.heap.size]? = some (.cells cs 33 (0, 0)) := row_below hb hr0
  clear hb hr0 K1
  go_upto_region 3 with fail
  go_wp2_with (refine wpList_load_rowG rfl 33 _ rfl w.heap.size rfl 33 cs (0, 0) _ hr1 Tryz.underlying33 rfl hi33 ?_)
  refine (K2.out _ HB1.out).mono ?_
  rintro e w2 ⟨⟨b2, rfl, i2⟩, hB2⟩
  have H2 : Hid (b2 = true ↔ M1) := i2
  have HB2 : Hid (Below w.heap.size w w2) := bel2 HB1.out hB2
  have hr2 : w2.heap[w.heap.size]? = some (.cells cs 33 (0, 0)) := row_below hB2 hr1
  clear i2 hB2 K2 hr1 HB1
  cases b2 with
  | false =>
    go_wp2_with fail
    exact HQ1.out _ _ ⟨fun h => (by cases h), fun h => H2.out.2 h.1⟩ HB2.out
  | true =>
    go_wp2_with (refine wpList_load_rowG rfl 33 _ rfl w.heap.size rfl 33 cs (0, 0) _ hr2 Tryz.underlying33 rfl hi33 ?_)
    refine (K3.out _ HB2.out).mono ?_
    rintro e w3 ⟨⟨b3, rfl, i3⟩, hB3⟩
    have H3 : Hid (b3 = true ↔ M2) := i3
    have HB3 : Hid (Below w.heap.size w w3) := bel2 HB2.out hB3
    clear i3 hB3 K3 hr2 HB2
    go_wp2_with fail
    exact HQ1.out _ _ ⟨fun h => ⟨H2.out.1 (by first | rfl | trivial), H3.out.1 (by simpa using h)⟩, fun h => by first | exact H3.out.2 h.2 | simp [H3.out.2 h.2]⟩ HB3.out
set_option maxHeartbeats 4000000 in
set_option maxRecDepth 100000 in
theorem endDone_calls (cs : Array Value) (z ts : Int) (m : Nat) (M1 M2 : Prop) (w : World) (h : EnK cs z ts m M1 M2 w) (hz : ¬ z = 1) (ht : ts = 0) (hm : m = 0) : Calls Tryz.prog 24 #[.agg cs] w (EnQ M1 M2 w) := by
  subst ht
  subst hm
  have hi33 := h.i33
  have c16 := h.c16
  obtain ⟨ta, tc, c23⟩ := h.c23
  have K1 : Hid (∀ W, Calls Tryz.prog 13 #[.agg cs] W (BoP false W)) := fun W => by
    have := running_calls cs z W h.c1
    rwa [show (z == 1) = false by simpa using hz] at this
  clear hz
  have K2 : Hid (∀ W, Below w.heap.size w W → Calls Tryz.prog 56 #[.agg cs] W (BqP M1 W)) := h.k2
  have K3 : Hid (∀ W, Below w.heap.size w W → Calls Tryz.prog 57 #[.agg cs] W (BqP M2 W)) := h.k3
  have HQ1 : Hid (∀ (b : Bool) w', (b = true ↔ (M1 ∧ M2)) → Below w.heap.size w w' → EnQ M1 M2 w (.returned (.bool b)) w') := fun b w' h hb => enq h hb
  generalize EnQ M1 M2 w = Q at HQ1 ⊢
  clear h
  have hr0 : (w.alloc (.cells cs 33)).heap[w.heap.size]? = some (.cells cs 33 (0, 0)) := heap_alloc_new _ _
  go_enter Tryz.func24, Tryz.ntmps24
  go_wp2_with (refine wpList_load_rowG rfl 33 _ rfl w.heap.size rfl 33 cs (0, 0) _ hr0 Tryz.underlying33 rfl hi33 ?_)
  refine (K1.out _).mono ?_
  rintro e w1 ⟨rfl, hb⟩
  have HB1 : Hid (Below w.heap.size w w1) := bel2 (bel1 _ _) hb
  have g16 : w1.cell? ⟨w.heap.size, 16, none⟩ = some (.int .i64 0) := row_cell (row_below hb hr0) c16
  have g23 : w1.cell? ⟨w.heap.size, 23, none⟩ = some (.slice ta 0 tc) := row_cell (row_below hb hr0) c23
  have hr1 : w1.heap[w.heap.size]? = some (.cells cs 33 (0, 0)) := row_below hb hr0
  clear hb hr0 K1 c16 c23
  go_upto_region 3 with fail
  go_wp2_with (refine wpList_load_rowG rfl 33 _ rfl w.heap.size rfl 33 cs (0, 0) _ hr1 Tryz.underlying33 rfl hi33 ?_)
  refine (K2.out _ HB1.out).mono ?_
  rintro e w2 ⟨⟨b2, rfl, i2⟩, hB2⟩
  have H2 : Hid (b2 = true ↔ M1) := i2
  have HB2 : Hid (Below w.heap.size w w2) := bel2 HB1.out hB2
  have hr2 : w2.heap[w.heap.size]? = some (.cells cs 33 (0, 0)) := row_below hB2 hr1
  clear i2 hB2 K2 hr1 HB1
  cases b2 with
  | false =>
    go_wp2_with fail
    exact HQ1.out _ _ ⟨fun h => (by cases h), fun h => H2.out.2 h.1⟩ HB2.out
  | true =>
    go_wp2_with (refine wpList_load_rowG rfl 33 _ rfl w.heap.size rfl 33 cs (0, 0) _ hr2 Tryz.underlying33 rfl hi33 ?_)
    refine (K3.out _ HB2.out).mono ?_
    rintro e w3 ⟨⟨b3, rfl, i3⟩, hB3⟩
    have H3 : Hid (b3 = true ↔ M2) := i3
    have HB3 : Hid (Below w.heap.size w w3) := bel2 HB2.out hB3
    clear i3 hB3 K3 hr2 HB2
    go_wp2_with fail
    exact HQ1.out _ _ ⟨fun h => ⟨H2.out.1 (by first | rfl | trivial), H3.out.1 (by simpa using h)⟩, fun h => by first | exact H3.out.2 h.2 | simp [H3.out.2 h.2]⟩ HB3.out
set_option maxHeartbeats 4000000 in
set_option maxRecDepth 100000 in
theorem endNot_calls (cs : Array Value) (z ts : Int) (m : Nat) (M1 M2 : Prop) (w : World) (h : EnK cs z ts m M1 M2 w) (hz : ¬ z = 1) (hm : ¬ (ts = 0 ∧ m = 0)) : Calls Tryz.prog 24 #[.agg cs] w fun e w' => e = .returned (.bool false) ∧ Below w.heap.size w w' := by
  have hi33 := h.i33
  have c16 := h.c16
  obtain ⟨ta, tc, c23⟩ := h.c23
  have K1 : Hid (∀ W, Calls Tryz.prog 13 #[.agg cs] W (BoP false W)) := fun W => by
    have := running_calls cs z W h.c1
    rwa [show (z == 1) = false by simpa using hz] at this
  clear hz h
  have hr0 : (w.alloc (.cells cs 33)).heap[w.heap.size]? = some (.cells cs 33 (0, 0)) := heap_alloc_new _ _
  go_enter Tryz.func24, Tryz.ntmps24
  go_wp2_with (refine wpList_load_rowG rfl 33 _ rfl w.heap.size rfl 33 cs (0, 0) _ hr0 Tryz.underlying33 rfl hi33 ?_)
  refine (K1.out _).mono ?_
  rintro e w1 ⟨rfl, hb⟩
  have HB1 : Hid (Below w.heap.size w w1) := bel2 (bel1 _ _) hb
  have g16 : w1.cell? ⟨w.heap.size, 16, none⟩ = some (.int .i64 ts) := row_cell (row_below hb hr0) c16
  have g23 : w1.cell? ⟨w.heap.size, 23, none⟩ = some (.slice ta m tc) := row_cell (row_below hb hr0) c23
  clear hb hr0 K1 c16 c23 hi33
  by_cases ht : ts = 0
  · have hm2 : 0 < m := by
      rcases Nat.eq_zero_or_pos m with e | e
      · exact absurd ⟨ht, e⟩ hm
      · exact e
    have d1 : decide ((0 : Int) < (m : Int)) = true := decide_eq_true (by omega)
    have d2 : decide (0 < m) = true := decide_eq_true hm2
    subst ht
    clear hm hm2
    go_wp2_with fail
    go_ret
    exact ⟨rfl, HB1.out⟩
  · have ht' : (ts != 0) = true := by simpa using ht
    clear ht hm
    go_wp2_with fail
    go_ret
    exact ⟨rfl, HB1.out⟩
theorem endFits_calls (n : Nat) (cs : Array Value) (s : Sta) (w : World) (h : Rs w (n + 1) cs s) : Calls Tryz.prog 24 #[.agg cs] w (BqP (EndP (n + 1) s) w) := by
  obtain ⟨ta, tc, c23, _⟩ := h.tm
  have K : EnK cs s.status s.ts s.tm.length (ResultP (n + 1) s) (ReasonP (n + 1) s) w := ⟨info33s cs h.size, h.c1, h.c16, ⟨ta, tc, c23⟩, fun W hb => resultFits_calls n cs s W (h.below hb), fun W hb => reasonFits_calls n cs s W (h.below hb)⟩
  by_cases hz : s.status = 1
  · refine (endRun_calls cs _ _ _ _ _ w K hz).mono ?_
    rintro e w' ⟨⟨b, rfl, h1⟩, hb⟩
    exact bq_mk (h1.trans ⟨fun h => ⟨.inl hz, h⟩, fun h => h.2⟩) hb
  · by_cases ht : s.ts = 0 ∧ s.tm.length = 0
    · refine (endDone_calls cs _ _ _ _ _ w K hz ht.1 ht.2).mono ?_
      rintro e w' ⟨⟨b, rfl, h1⟩, hb⟩
      exact bq_mk (h1.trans ⟨fun h => ⟨.inr ht, h⟩, fun h => h.2⟩) hb
    · refine (endNot_calls cs _ _ _ _ _ w K hz ht).mono ?_
      rintro e w' ⟨rfl, hb⟩
      exact bq_mk ⟨fun h => (by cases h), fun h => by rcases h.1 with h | h; exact absurd h hz; exact absurd h ht⟩ hb
set_option maxHeartbeats 4000000 in
set_option maxRecDepth 100000 in
theorem taskFits_calls (n : Nat) (cs : Array Value) (s : Sta) (w : World) (h : Rs w (n + 1) cs s) : Calls Tryz.prog 25 #[.agg cs] w (BqP (TaskP s) w) := by
  have c2 := h.c2
  have c16 := h.c16
  have c17 := h.c17
  have c18 := h.c18
  have c19 := h.c19
  have c20 := h.c20
  have K1 : Hid (∀ W, Calls Tryz.prog 58 #[.agg #[.int .i64 s.ts, .int .i64 s.ta, .int .i64 s.td, .int .i64 s.te, .int .i64 s.tn]] W fun e w' => e = .returned (.bool (tryB s.ta s.td)) ∧ Below W.heap.size W w') := fun W => tryFits_calls s.ts s.ta s.td s.te s.tn W
  have K2 : Hid (∀ W, Calls Tryz.prog 52 #[.int .i64 s.te, .int .i64 1, .int .i64 s.count] W fun e w' => e = .returned (.bool (wb s.te 1 s.count)) ∧ w' = W) := fun W => swithin_calls s.te 1 s.count W
  have HQ : Hid (∀ (b : Bool) w', (b = true ↔ ((s.ts = 0 ∧ s.ta = 0 ∧ s.td = 0 ∧ s.te = 0 ∧ s.tn = 0) ∨ (s.ts = 1 ∧ tryB s.ta s.td = true ∧ s.te = 0 ∧ s.tn = 0) ∨ (s.ts = 2 ∧ tryB s.ta s.td = true ∧ wb s.te 1 s.count = true ∧ s.tn = s.te))) → Below w.heap.size w w' → BqP (TaskP s) w (.returned (.bool b)) w') := fun b w' h hb => bq_mk h hb
  generalize BqP (TaskP s) w = Q at HQ ⊢
  generalize tryB s.ta s.td = b1 at K1 HQ
  generalize wb s.te 1 s.count = b2 at K2 HQ
  generalize s.ts = ts at c16 HQ K1
  generalize s.ta = ta at c17 HQ K1
  generalize s.td = td at c18 HQ K1
  generalize s.te = te at c19 HQ K1 K2
  generalize s.tn = tn at c20 HQ K1
  generalize s.count = ct at c2 K2
  clear h
  by_cases h0 : ts = 0
  · subst h0
    have HQ1 : Hid (∀ (b : Bool) w', (b = true ↔ (ta = 0 ∧ td = 0 ∧ te = 0 ∧ tn = 0)) → Below w.heap.size w w' → Q (.returned (.bool b)) w') := fun b w' h hb => HQ.out b w' (by rw [h]; simp) hb
    clear HQ K1 K2
    go_enter Tryz.func25, Tryz.ntmps25
    go_wp2_with fail
    all_goals
      refine HQ1.out _ _ ?_ (bel2 (bel1 _ _) (bel1 _ _))
      clear HQ1 c16 c17 c18 c19 c20 c2
      simp_all
  · have h0' : (ts == 0) = false := by simpa using h0
    by_cases h1 : ts = 1
    · subst h1
      have HQ1 : Hid (∀ (b : Bool) w', (b = true ↔ (b1 = true ∧ te = 0 ∧ tn = 0)) → Below w.heap.size w w' → Q (.returned (.bool b)) w') := fun b w' h hb => HQ.out b w' (by rw [h]; simp) hb
      clear HQ K2 h0
      go_enter Tryz.func25, Tryz.ntmps25
      go_wp2_with fail
      refine (K1.out _).mono ?_
      rintro e w1 ⟨rfl, hb⟩
      have HB1 : Hid (Below w.heap.size w w1) := bel2 (bel2 (bel1 _ _) (bel1 _ _)) hb
      have g3 : w1.cell? ⟨w.heap.size + 1, 3, none⟩ = some (.int .i64 te) := row_cell (row_below hb (heap_alloc2_new w _ _)) rfl
      have g4 : w1.cell? ⟨w.heap.size + 1, 4, none⟩ = some (.int .i64 tn) := row_cell (row_below hb (heap_alloc2_new w _ _)) rfl
      clear hb K1
      cases b1 with
      | false =>
        go_wp2_with fail
        exact HQ1.out _ _ (by simp) HB1.out
      | true =>
        by_cases e0 : te = 0
        · subst e0
          go_wp2_with fail
          exact HQ1.out _ _ (by simp) HB1.out
        · have e0' : (te == 0) = false := by simpa using e0
          go_wp2_with fail
          exact HQ1.out _ _ (by simp [e0]) HB1.out
    · have h1' : (ts == 1) = false := by simpa using h1
      by_cases h2 : ts = 2
      · subst h2
        have HQ1 : Hid (∀ (b : Bool) w', (b = true ↔ (b1 = true ∧ b2 = true ∧ tn = te)) → Below w.heap.size w w' → Q (.returned (.bool b)) w') := fun b w' h hb => HQ.out b w' (by rw [h]; simp) hb
        clear HQ h0 h1
        go_enter Tryz.func25, Tryz.ntmps25
        go_wp2_with fail
        refine (K1.out _).mono ?_
        rintro e w1 ⟨rfl, hb⟩
        have HB1 : Hid (Below w.heap.size w w1) := bel2 (bel2 (bel1 _ _) (bel1 _ _)) hb
        have g3 : w1.cell? ⟨w.heap.size + 1, 3, none⟩ = some (.int .i64 te) := row_cell (row_below hb (heap_alloc2_new w _ _)) rfl
        have g4 : w1.cell? ⟨w.heap.size + 1, 4, none⟩ = some (.int .i64 tn) := row_cell (row_below hb (heap_alloc2_new w _ _)) rfl
        have g1 : ∀ j, w1.cell? ⟨w.heap.size, j, none⟩ = cs[j]? := fun j => cell_of_row w1 _ j cs 33 (0, 0) (row_below (bel2 (bel1 _ _) hb) (heap_alloc_new _ _))
        clear hb K1
        cases b1 with
        | false =>
          go_wp2_with fail
          exact HQ1.out _ _ (by simp) HB1.out
        | true =>
          go_wp2_with fail
          refine (K2.out _).mono ?_
          rintro e w2 ⟨rfl, hw⟩
          have hw' := hw.symm
          subst hw'
          clear hw K2
          cases b2 with
          | false =>
            go_wp2_with fail
            exact HQ1.out _ _ (by simp) HB1.out
          | true =>
            go_wp2_with fail
            exact HQ1.out _ _ (by simp) HB1.out
      · have h2' : (ts == 2) = false := by simpa using h2
        have HQ1 : Hid (∀ w', Below w.heap.size w w' → Q (.returned (.bool false)) w') := fun w' hb => HQ.out false w' (by simp [h0, h1, h2]) hb
        clear HQ h0 h1 h2 K1 K2
        go_enter Tryz.func25, Tryz.ntmps25
        go_wp2_with fail
        exact HQ1.out _ (bel2 (bel1 _ _) (bel1 _ _))
end Go.Proofs.YthphgkaifnacbaaGreat
namespace Go.Proofs.YthphgkaifnacbaaGreat
open Go.ChangeShapes Go.WideShapes Go.ChangeAt Go.RowKit
theorem tm_base {ok : Nat → Prop} {w : World} {a : Option Addr} {l : List Tm} (h : RowS ok w a 2 (l.map Tm.cells)) {j : Nat} {tt : Tm} (hj : l[j]? = some tt) : ∃ B o, a = some ⟨B, o, none⟩ ∧ w.rangeAt B (o + j * 2) [.string tt.s, .int .i64 tt.d] := by
  obtain ⟨_, _, B, o, ha, _, hl⟩ := h j tt.cells (by rw [List.getElem?_map, hj]; rfl)
  exact ⟨B, o, ha, lies_range hl⟩
theorem hi38 (a b : Value) : (Tryz.prog.info? 56).map (·.size) = some [a, b].length := by kernel_rfl
set_option maxHeartbeats 4000000 in
set_option maxRecDepth 100000 in
theorem ssame_calls (n : Nat) (cs ds : Array Value) (s : Sta) (w : World) (h : Rs w n cs s) (k : Rs w n ds s) (ht : s.tm.length ≤ 1000) (hu : s.up.length ≤ 1000) :
    Calls Tryz.prog 10 #[.agg cs, .agg ds] w fun e w' => e = .returned (.bool true) ∧ Below w.heap.size w w' := by
  obtain ⟨k1, x1, b1, s1, a1, m1, c1, i1, i2, i3, i4, i5, iv⟩ := h.inp
  obtain ⟨k2, x2, b2, s2, a2, m2, c2, j1, j2, j3, j4, j5, jv⟩ := h.res
  obtain ⟨k3, x3, b3, s3, a3, m3, c3, p1, p2, p3, p4, p5, pv⟩ := k.inp
  obtain ⟨k4, x4, b4, s4, a4, m4, c4, q1, q2, q3, q4, q5, qv⟩ := k.res
  obtain ⟨ta, tc, t1, t2⟩ := h.tm
  obtain ⟨ta2, tc2, t3, t4⟩ := k.tm
  obtain ⟨ua, uc, us, u1, u2, u3, u4⟩ := h.up
  obtain ⟨ua2, uc2, us2, u5, u6, u7, u8⟩ := k.up
  have KI : Hid (∀ W, Below w.heap.size w W → _) := fun W hB => rsame_calls n _ _ _ _ W (iv.below hB) (pv.below hB)
  have KR : Hid (∀ W, Below w.heap.size w W → _) := fun W hB => rsame_calls n _ _ _ _ W (jv.below hB) (qv.below hB)
  have HT2 : Hid (RowS (fun _ => True) w ta 2 (s.tm.map Tm.cells)) := t2
  have HT4 : Hid (RowS (fun _ => True) w ta2 2 (s.tm.map Tm.cells)) := t4
  have HU2 : Hid (us.length = s.up.length ∧ us2.length = s.up.length) := ⟨u2, u6⟩
  have HU3 : Hid (RowS (fun _ => True) w ua 12 us) := u3
  have HU7 : Hid (RowS (fun _ => True) w ua2 12 us2) := u7
  have HU4 : Hid (∀ (i : Nat) r u, us[i]? = some r → s.up[i]? = some u → IsU (Is w n) r u) := u4
  have HU8 : Hid (∀ (i : Nat) r u, us2[i]? = some r → s.up[i]? = some u → IsU (Is w n) r u) := u8
  have HT : Hid (s.tm.length ≤ 1000) := ht
  have HU : Hid (s.up.length ≤ 1000) := hu
  have e0 := h.c0
  have e1 := h.c1
  have e2 := h.c2
  have e3 := h.c3
  have e4 := h.c4
  have e5 := h.c5
  have e6 := h.c6
  have e7 := h.c7
  have e13 := h.c13
  have e14 := h.c14
  have e15 := h.c15
  have e16 := h.c16
  have e17 := h.c17
  have e18 := h.c18
  have e19 := h.c19
  have e20 := h.c20
  have e21 := h.c21
  have e22 := h.c22
  have e30 := h.c30
  have f0 := k.c0
  have f1 := k.c1
  have f2 := k.c2
  have f3 := k.c3
  have f4 := k.c4
  have f5 := k.c5
  have f6 := k.c6
  have f7 := k.c7
  have f13 := k.c13
  have f14 := k.c14
  have f15 := k.c15
  have f16 := k.c16
  have f17 := k.c17
  have f18 := k.c18
  have f19 := k.c19
  have f20 := k.c20
  have f21 := k.c21
  have f22 := k.c22
  have f30 := k.c30
  clear iv jv pv qv t2 t4 u2 u6 u3 u7 u4 u8 ht hu h k
  go_enter Tryz.func10, Tryz.ntmps10
  go_wp2_with fail
  refine (KI.out _ (bel2 (bel1 _ _) (bel1 _ _))).mono ?_
  rintro e w1 ⟨⟨r1, rfl, hr1⟩, hb1⟩
  obtain rfl := hr1.2 trivial
  have G1 : Hid (w1.heap[w.heap.size]? = some (.cells cs 33 (0, 0))) := row_below hb1 (heap_alloc2_old _ _ _)
  have D1 : Hid (w1.heap[w.heap.size + 1]? = some (.cells ds 33 (0, 0))) := row_below hb1 (heap_alloc2_new _ _ _)
  have B1 : Hid (Below w.heap.size w w1) := bel2 (bel2 (bel1 _ _) (bel1 _ _)) hb1
  have g1 : ∀ j, w1.cell? ⟨w.heap.size, j, none⟩ = cs[j]? := fun j => cell_of_row w1 _ j cs 33 (0, 0) G1.out
  have d1 : ∀ j, w1.cell? ⟨w.heap.size + 1, j, none⟩ = ds[j]? := fun j => cell_of_row w1 _ j ds 33 (0, 0) D1.out
  clear hr1 hb1 KI e0 f0 e1 f1 e2 f2 e3 f3 e4 f4 e5 f5 e6 f6 e7 f7 e13 f13 e14 f14 e15 f15 e16 f16 e17 f17 e18 f18 e19 f19 e20 f20 e21 f21 e22 f22 e30 f30 i1 i2 i3 i4 i5 p1 p2 p3 p4 p5
  go_wp2_with fail
  refine (KR.out _ B1.out).mono ?_
  rintro e w2 ⟨⟨r2, rfl, hr2⟩, hb2⟩
  obtain rfl := hr2.2 trivial
  have G2 : Hid (w2.heap[w.heap.size]? = some (.cells cs 33 (0, 0))) := row_below hb2 G1.out
  have D2 : Hid (w2.heap[w.heap.size + 1]? = some (.cells ds 33 (0, 0))) := row_below hb2 D1.out
  have B2 : Hid (Below w.heap.size w w2) := bel2 B1.out hb2
  have g2 : ∀ j, w2.cell? ⟨w.heap.size, j, none⟩ = cs[j]? := fun j => cell_of_row w2 _ j cs 33 (0, 0) G2.out
  have d2 : ∀ j, w2.cell? ⟨w.heap.size + 1, j, none⟩ = ds[j]? := fun j => cell_of_row w2 _ j ds 33 (0, 0) D2.out
  clear hr2 hb2 KR g1 d1 j1 j2 j3 j4 j5 q1 q2 q3 q4 q5 G1 D1 B1
  go_wp2_with fail
  have B0 : Hid (w.heap.size + 2 ≤ w2.heap.size) := by
    have hh := (Array.getElem?_eq_some_iff.1 D2.out).1
    show _ ≤ _
    omega
  clear g2 d2
  go_loopw [5] (fun i wr => ∃ j : Nat, j ≤ s.tm.length ∧ i = .int .i64 j ∧ Hid (Below w2.heap.size w2 wr)) (fun i _ => s.tm.length - (intOf i).toNat)
  case atStart => exact ⟨0, Nat.zero_le _, rfl, Below.refl _ _⟩
  case round =>
    obtain ⟨j, hj, rfl, HB⟩ := hrel
    have g3 : ∀ j, wr.cell? ⟨w.heap.size, j, none⟩ = cs[j]? := fun j => cell_of_row wr _ j cs 33 (0, 0) (row_below HB.out G2.out)
    have d3 : ∀ j, wr.cell? ⟨w.heap.size + 1, j, none⟩ = ds[j]? := fun j => cell_of_row wr _ j ds 33 (0, 0) (row_below HB.out D2.out)
    by_cases hlt : j < s.tm.length
    · obtain ⟨tt, htt⟩ : ∃ tt, s.tm[j]? = some tt := ⟨_, List.getElem?_eq_getElem hlt⟩
      obtain ⟨TB, tp, hta, l1⟩ := tm_base HT2.out htt
      obtain ⟨TB2, tp2, hta2, l2⟩ := tm_base HT4.out htt
      have hbw := bel2 B2.out HB.out
      have l1 : wr.rangeAt TB (tp + j * 2) [.string tt.s, .int .i64 tt.d] := fun i v hv => cellW (l1 i v hv) hbw
      have l2 : wr.rangeAt TB2 (tp2 + j * 2) [.string tt.s, .int .i64 tt.d] := fun i v hv => cellW (l2 i v hv) hbw
      have z23 := (g3 23).trans t1
      have y23 := (d3 23).trans t3
      rw [hta] at z23
      rw [hta2] at y23
      have hi38 := hi38 (.string tt.s) (.int .i64 tt.d)
      have hjl : (j : Int) < (s.tm.length : Int) := by omega
      have HW1 : Hid (wrap64 ((j : Int) + 1) = ((j + 1 : Nat) : Int)) := wr1 hlt (by have := HT.out; omega)
      clear htt hta hta2 hbw
      go_wp2_with fail
      refine wp_region_held_drew (S := (fun w' => w'.cell? ⟨w.heap.size, 23, none⟩ = some (.slice (some ⟨TB, tp, none⟩) s.tm.length tc) ∧ w'.cell? ⟨w.heap.size + 1, 23, none⟩ = some (.slice (some ⟨TB2, tp2, none⟩) s.tm.length tc2) ∧ w'.rangeAt TB (tp + j * 2) [.string tt.s, .int .i64 tt.d] ∧ w'.rangeAt TB2 (tp2 + j * 2) [.string tt.s, .int .i64 tt.d])) (by kernel_rfl) ⟨z23, y23, l1, l2⟩ (fun hHeld => ?_)
      change wpAnyH _ _ _ _ _ _ _ _ (World.drew _)
      refine wpAnyH_take (i := 0) (oi := { dst := some 137, op := Go.Op.fieldAddr 33 (Go.Operand.tmp 2) 13, type := 0, pos := "ref.go:98", after := #[], guard := none }) (v := ?_) rfl (by kernel_rfl) (by kernel_rfl) (by kernel_rfl) (fun _ _ _ h => h) (Or.inl ⟨by rfl, ?_⟩) hHeld ?_
      rotate_left 1
      · (intro w hSw; (try dsimp only at hSw); go_simp <;> with_reducible rfl)
      simp only [Act.put, List.setIfInBounds_toArray, List.set_cons_zero, List.set_cons_succ]
      refine wpAnyH_take (i := 1) (oi := { dst := some 138, op := Go.Op.load 30 (Go.Operand.tmp 137), type := 30, pos := "ref.go:98", after := #[{ on := 0, ground := Go.Ground.data }], guard := none }) (v := ?_) rfl (by kernel_rfl) (by kernel_rfl) (by kernel_rfl) (fun _ _ _ h => h) (Or.inl ⟨by rfl, ?_⟩) hHeld ?_
      rotate_left 1
      · (intro w hSw; (try dsimp only at hSw); go_simp <;> with_reducible rfl)
      simp only [Act.put, List.setIfInBounds_toArray, List.set_cons_zero, List.set_cons_succ]
      refine wpAnyH_take (i := 2) (oi := { dst := some 139, op := Go.Op.move (Go.Operand.tmp 5), type := 3, pos := "ref.go:98", after := #[], guard := none }) (v := ?_) rfl (by kernel_rfl) (by kernel_rfl) (by kernel_rfl) (fun _ _ _ h => h) (Or.inl ⟨by rfl, ?_⟩) hHeld ?_
      rotate_left 1
      · (intro w hSw; (try dsimp only at hSw); go_simp <;> with_reducible rfl)
      simp only [Act.put, List.setIfInBounds_toArray, List.set_cons_zero, List.set_cons_succ]
      refine wpAnyH_take (i := 3) (oi := { dst := some 140, op := Go.Op.indexAddr 30 (Go.Operand.tmp 138) (Go.Operand.tmp 139), type := 0, pos := "ref.go:98", after := #[{ on := 1, ground := Go.Ground.data }, { on := 2, ground := Go.Ground.data }], guard := none }) (v := ?_) rfl (by kernel_rfl) (by kernel_rfl) (by kernel_rfl) (fun _ _ _ h => h) (Or.inl ⟨by rfl, ?_⟩) hHeld ?_
      rotate_left 1
      · (intro w hSw; (try dsimp only at hSw); go_simp <;> with_reducible rfl)
      simp only [Act.put, List.setIfInBounds_toArray, List.set_cons_zero, List.set_cons_succ]
      refine wpAnyH_take (i := 4) (oi := { dst := some 141, op := Go.Op.load 56 (Go.Operand.tmp 140), type := 56, pos := "ref.go:98", after := #[{ on := 3, ground := Go.Ground.data }], guard := none }) (v := _) rfl (by kernel_rfl) (by kernel_rfl) (by kernel_rfl) (fun _ _ _ h => h) (yieldsIf_load_mid rfl 56 _ rfl TB (tp + j * 2) rfl [.string tt.s, .int .i64 tt.d] _ (fun w h => h.2.2.1) Tryz.underlying56 rfl hi38) hHeld ?_
      simp only [Act.put, List.setIfInBounds_toArray, List.set_cons_zero, List.set_cons_succ]
      refine wpAnyH_take (i := 5) (oi := { dst := some 142, op := Go.Op.fieldAddr 33 (Go.Operand.tmp 3) 13, type := 0, pos := "ref.go:98", after := #[], guard := none }) (v := ?_) rfl (by kernel_rfl) (by kernel_rfl) (by kernel_rfl) (fun _ _ _ h => h) (Or.inl ⟨by rfl, ?_⟩) hHeld ?_
      rotate_left 1
      · (intro w hSw; (try dsimp only at hSw); go_simp <;> with_reducible rfl)
      simp only [Act.put, List.setIfInBounds_toArray, List.set_cons_zero, List.set_cons_succ]
      refine wpAnyH_take (i := 6) (oi := { dst := some 143, op := Go.Op.load 30 (Go.Operand.tmp 142), type := 30, pos := "ref.go:98", after := #[{ on := 5, ground := Go.Ground.data }], guard := none }) (v := ?_) rfl (by kernel_rfl) (by kernel_rfl) (by kernel_rfl) (fun _ _ _ h => h) (Or.inl ⟨by rfl, ?_⟩) hHeld ?_
      rotate_left 1
      · (intro w hSw; (try dsimp only at hSw); go_simp <;> with_reducible rfl)
      simp only [Act.put, List.setIfInBounds_toArray, List.set_cons_zero, List.set_cons_succ]
      refine wpAnyH_take (i := 7) (oi := { dst := some 144, op := Go.Op.move (Go.Operand.tmp 5), type := 3, pos := "ref.go:98", after := #[], guard := none }) (v := ?_) rfl (by kernel_rfl) (by kernel_rfl) (by kernel_rfl) (fun _ _ _ h => h) (Or.inl ⟨by rfl, ?_⟩) hHeld ?_
      rotate_left 1
      · (intro w hSw; (try dsimp only at hSw); go_simp <;> with_reducible rfl)
      simp only [Act.put, List.setIfInBounds_toArray, List.set_cons_zero, List.set_cons_succ]
      refine wpAnyH_take (i := 8) (oi := { dst := some 145, op := Go.Op.indexAddr 30 (Go.Operand.tmp 143) (Go.Operand.tmp 144), type := 0, pos := "ref.go:98", after := #[{ on := 6, ground := Go.Ground.data }, { on := 7, ground := Go.Ground.data }], guard := none }) (v := ?_) rfl (by kernel_rfl) (by kernel_rfl) (by kernel_rfl) (fun _ _ _ h => h) (Or.inl ⟨by rfl, ?_⟩) hHeld ?_
      rotate_left 1
      · (intro w hSw; (try dsimp only at hSw); go_simp <;> with_reducible rfl)
      simp only [Act.put, List.setIfInBounds_toArray, List.set_cons_zero, List.set_cons_succ]
      refine wpAnyH_take (i := 9) (oi := { dst := some 146, op := Go.Op.load 56 (Go.Operand.tmp 145), type := 56, pos := "ref.go:98", after := #[{ on := 8, ground := Go.Ground.data }], guard := none }) (v := _) rfl (by kernel_rfl) (by kernel_rfl) (by kernel_rfl) (fun _ _ _ h => h) (yieldsIf_load_mid rfl 56 _ rfl TB2 (tp2 + j * 2) rfl [.string tt.s, .int .i64 tt.d] _ (fun w h => h.2.2.2) Tryz.underlying56 rfl hi38) hHeld ?_
      simp only [Act.put, List.setIfInBounds_toArray, List.set_cons_zero, List.set_cons_succ]
      refine wpAnyH_take (i := 10) (oi := { dst := some 147, op := Go.Op.binOp Go.BinOp.neq 56 (Go.Operand.tmp 141) (Go.Operand.tmp 146) 56, type := 4, pos := "ref.go:98", after := #[{ on := 4, ground := Go.Ground.data }, { on := 9, ground := Go.Ground.data }], guard := none }) (v := ?_) rfl (by kernel_rfl) (by kernel_rfl) (by kernel_rfl) (fun _ _ _ h => h) (Or.inl ⟨by rfl, ?_⟩) hHeld ?_
      rotate_left 1
      · (intro w hSw; (try dsimp only at hSw); go_simp <;> with_reducible rfl)
      simp only [Act.put, List.setIfInBounds_toArray, List.set_cons_zero, List.set_cons_succ]
      refine wpAnyH_done (by kernel_rfl) ?_ _
      go_wp2_with fail
      exact ⟨⟨j + 1, hlt, by rw [HW1.out], (HB.out.drew)⟩, meas hlt HW1.out⟩
    · obtain rfl : j = s.tm.length := by omega
      have B3 : Hid (Below w.heap.size w wr) := bel2 B2.out HB.out
      have G3 : Hid (wr.heap[w.heap.size]? = some (.cells cs 33 (0, 0))) := row_below HB.out G2.out
      have D3 : Hid (wr.heap[w.heap.size + 1]? = some (.cells ds 33 (0, 0))) := row_below HB.out D2.out
      go_wp2_with fail
      clear g3 d3 HB G2 D2 B2
      generalize wr = w3 at B3 G3 D3 ⊢
      go_loopw [6] (fun i wr => ∃ j : Nat, j ≤ s.up.length ∧ i = .int .i64 j ∧ Hid (Below w3.heap.size w3 wr)) (fun i _ => s.up.length - (intOf i).toNat)
      case atStart => exact ⟨0, Nat.zero_le _, rfl, Below.refl _ _⟩
      case round =>
        obtain ⟨j, hj, rfl, HB⟩ := hrel
        have g3 : ∀ j, wr.cell? ⟨w.heap.size, j, none⟩ = cs[j]? := fun j => cell_of_row wr _ j cs 33 (0, 0) (row_below HB.out G3.out)
        have d3 : ∀ j, wr.cell? ⟨w.heap.size + 1, j, none⟩ = ds[j]? := fun j => cell_of_row wr _ j ds 33 (0, 0) (row_below HB.out D3.out)
        by_cases hlt : j < s.up.length
        · obtain ⟨u, hu⟩ : ∃ u, s.up[j]? = some u := ⟨_, List.getElem?_eq_getElem hlt⟩
          obtain ⟨r, hr⟩ : ∃ r, us[j]? = some r := ⟨_, List.getElem?_eq_getElem (by rw [HU2.out.1]; exact hlt)⟩
          obtain ⟨q, hq⟩ : ∃ q, us2[j]? = some q := ⟨_, List.getElem?_eq_getElem (by rw [HU2.out.2]; exact hlt)⟩
          have hbw := bel2 B3.out HB.out
          obtain ⟨sr, or_, TB, tp, hta, _, l1⟩ := HU3.out j r hr
          obtain ⟨sq, oq, TB2, tp2, hta2, _, l2⟩ := HU7.out j q hq
          have l1 : wr.rangeAt TB (tp + j * 12) r.toList := lies_range (l1.below hbw)
          have l2 : wr.rangeAt TB2 (tp2 + j * 12) q.toList := lies_range (l2.below hbw)
          have ir := HU4.out j r u hr hu
          have iq := HU8.out j q u hq hu
          obtain ⟨k1, x1, b1, s1, a1, m1, c1, i1, i2, i3, i4, i5, iv⟩ := ir.v
          obtain ⟨k2, x2, b2, s2, a2, m2, c2, j1, j2, j3, j4, j5, jv⟩ := ir.o
          obtain ⟨k3, x3, b3, s3, a3, m3, c3, p1, p2, p3, p4, p5, pv⟩ := iq.v
          obtain ⟨k4, x4, b4, s4, a4, m4, c4, q1, q2, q3, q4, q5, qv⟩ := iq.o
          have KV : Hid (∀ W, Below w.heap.size w W → _) := fun W hB => rsame_calls n _ _ _ _ W (iv.below hB) (pv.below hB)
          have KO : Hid (∀ W, Below w.heap.size w W → _) := fun W hB => rsame_calls n _ _ _ _ W (jv.below hB) (qv.below hB)
          have r0 := ir.c0
          have r6 := ir.c6
          have q0 := iq.c0
          have q6 := iq.c6
          have z24 := (g3 24).trans u1
          have y24 := (d3 24).trans u5
          rw [hta] at z24
          rw [hta2] at y24
          have hir : (Tryz.prog.info? 37).map (·.size) = some r.toList.length := by rw [Array.length_toList]; exact info40s r sr
          have hiq : (Tryz.prog.info? 37).map (·.size) = some q.toList.length := by rw [Array.length_toList]; exact info40s q sq
          have hir' := info40s r sr
          have hiq' := info40s q sq
          have har := all_one or_
          have haq := all_one oq
          have hjl : (j : Int) < (s.up.length : Int) := by omega
          have HW1 : Hid (wrap64 ((j : Int) + 1) = ((j + 1 : Nat) : Int)) := wr1 hlt (by have := HU.out; omega)
          have HBw : Hid (Below w.heap.size w wr) := hbw
          have hz1 : zU.size = r.size := sr.symm
          have hz2 : zU.size = q.size := sq.symm
          clear hu hr hq hta hta2 hbw ir iq iv jv pv qv or_ oq
          go_upto_region 13 with fail
          go_cut [7, 8] (fun s7 s8 wc => ∃ g7 g8, s7 = .pointer (some ⟨g7, 0, none⟩) ∧ s8 = .pointer (some ⟨g8, 0, none⟩) ∧ Hid (wc.heap[g7]? = some (.cells r 37 (0, 0)) ∧ wc.heap[g8]? = some (.cells q 37 (0, 0)) ∧ Below wr.heap.size wr wc))
          case first =>
            have hk13 : ∀ {W : World}, Below wr.heap.size wr W → (fun w' => w'.cell? ⟨w.heap.size, 24, none⟩ = some (.slice (some ⟨TB, tp, none⟩) s.up.length uc) ∧ w'.cell? ⟨w.heap.size + 1, 24, none⟩ = some (.slice (some ⟨TB2, tp2, none⟩) s.up.length uc2) ∧ w'.rangeAt TB (tp + j * 12) r.toList ∧ w'.rangeAt TB2 (tp2 + j * 12) q.toList) W := fun hb => ⟨cellW z24 hb, cellW y24 hb, fun i v hv => cellW (l1 i v hv) hb, fun i v hv => cellW (l2 i v hv) hb⟩
            refine wp_region_held_drew (S := (fun w' => w'.cell? ⟨w.heap.size, 24, none⟩ = some (.slice (some ⟨TB, tp, none⟩) s.up.length uc) ∧ w'.cell? ⟨w.heap.size + 1, 24, none⟩ = some (.slice (some ⟨TB2, tp2, none⟩) s.up.length uc2) ∧ w'.rangeAt TB (tp + j * 12) r.toList ∧ w'.rangeAt TB2 (tp2 + j * 12) q.toList)) (by kernel_rfl) ⟨z24, y24, l1, l2⟩ (fun hHeld => ?_)
            change wpAnyH _ _ _ _ _ _ _ _ (World.drew _)
            refine wpAnyH_take (i := 0) (oi := { dst := some 155, op := Go.Op.fieldAddr 33 (Go.Operand.tmp 2) 14, type := 0, pos := "ref.go:103", after := #[], guard := none }) (v := ?_) rfl (by kernel_rfl) (by kernel_rfl) (by kernel_rfl) (fun _ _ _ h => h) (Or.inl ⟨by rfl, ?_⟩) hHeld ?_
            rotate_left 1
            · (intro w hSw; (try dsimp only at hSw); go_simp <;> with_reducible rfl)
            simp only [Act.put, List.setIfInBounds_toArray, List.set_cons_zero, List.set_cons_succ]
            refine wpAnyH_take (i := 1) (oi := { dst := some 156, op := Go.Op.load 31 (Go.Operand.tmp 155), type := 31, pos := "ref.go:103", after := #[{ on := 0, ground := Go.Ground.data }], guard := none }) (v := ?_) rfl (by kernel_rfl) (by kernel_rfl) (by kernel_rfl) (fun _ _ _ h => h) (Or.inl ⟨by rfl, ?_⟩) hHeld ?_
            rotate_left 1
            · (intro w hSw; (try dsimp only at hSw); go_simp <;> with_reducible rfl)
            simp only [Act.put, List.setIfInBounds_toArray, List.set_cons_zero, List.set_cons_succ]
            refine wpAnyH_take (i := 2) (oi := { dst := some 157, op := Go.Op.move (Go.Operand.tmp 6), type := 3, pos := "ref.go:103", after := #[], guard := none }) (v := ?_) rfl (by kernel_rfl) (by kernel_rfl) (by kernel_rfl) (fun _ _ _ h => h) (Or.inl ⟨by rfl, ?_⟩) hHeld ?_
            rotate_left 1
            · (intro w hSw; (try dsimp only at hSw); go_simp <;> with_reducible rfl)
            simp only [Act.put, List.setIfInBounds_toArray, List.set_cons_zero, List.set_cons_succ]
            refine wpAnyH_take (i := 3) (oi := { dst := some 158, op := Go.Op.indexAddr 31 (Go.Operand.tmp 156) (Go.Operand.tmp 157), type := 0, pos := "ref.go:103", after := #[{ on := 1, ground := Go.Ground.data }, { on := 2, ground := Go.Ground.data }], guard := none }) (v := ?_) rfl (by kernel_rfl) (by kernel_rfl) (by kernel_rfl) (fun _ _ _ h => h) (Or.inl ⟨by rfl, ?_⟩) hHeld ?_
            rotate_left 1
            · (intro w hSw; (try dsimp only at hSw); go_simp <;> with_reducible rfl)
            simp only [Act.put, List.setIfInBounds_toArray, List.set_cons_zero, List.set_cons_succ]
            refine wpAnyH_take (i := 4) (oi := { dst := some 159, op := Go.Op.load 37 (Go.Operand.tmp 158), type := 37, pos := "ref.go:103", after := #[{ on := 3, ground := Go.Ground.data }], guard := none }) (v := _) rfl (by kernel_rfl) (by kernel_rfl) (by kernel_rfl) (fun _ _ _ h => h) (yieldsIf_load_mid rfl 37 _ rfl TB (tp + j * 12) rfl r.toList _ (fun w h => h.2.2.1) Tryz.underlying37 rfl hir) hHeld ?_
            simp only [Act.put, List.setIfInBounds_toArray, List.set_cons_zero, List.set_cons_succ]
            refine wpAnyH_take (i := 5) (oi := { dst := some 160, op := Go.Op.fieldAddr 33 (Go.Operand.tmp 3) 14, type := 0, pos := "ref.go:103", after := #[{ on := 12, ground := Go.Ground.gcOnly Go.Departure.lateStores }], guard := none }) (v := ?_) rfl (by kernel_rfl) (by kernel_rfl) (by kernel_rfl) (fun _ _ _ h => h) (Or.inl ⟨by rfl, ?_⟩) hHeld ?_
            rotate_left 1
            · (intro w hSw; (try dsimp only at hSw); go_simp <;> with_reducible rfl)
            simp only [Act.put, List.setIfInBounds_toArray, List.set_cons_zero, List.set_cons_succ]
            refine wpAnyH_take (i := 6) (oi := { dst := some 161, op := Go.Op.load 31 (Go.Operand.tmp 160), type := 31, pos := "ref.go:103", after := #[{ on := 5, ground := Go.Ground.data }, { on := 12, ground := Go.Ground.gcOnly Go.Departure.lateStores }], guard := none }) (v := ?_) rfl (by kernel_rfl) (by kernel_rfl) (by kernel_rfl) (fun _ _ _ h => h) (Or.inl ⟨by rfl, ?_⟩) hHeld ?_
            rotate_left 1
            · (intro w hSw; (try dsimp only at hSw); go_simp <;> with_reducible rfl)
            simp only [Act.put, List.setIfInBounds_toArray, List.set_cons_zero, List.set_cons_succ]
            refine wpAnyH_take (i := 7) (oi := { dst := some 162, op := Go.Op.move (Go.Operand.tmp 6), type := 3, pos := "ref.go:103", after := #[{ on := 12, ground := Go.Ground.gcOnly Go.Departure.lateStores }], guard := none }) (v := ?_) rfl (by kernel_rfl) (by kernel_rfl) (by kernel_rfl) (fun _ _ _ h => h) (Or.inl ⟨by rfl, ?_⟩) hHeld ?_
            rotate_left 1
            · (intro w hSw; (try dsimp only at hSw); go_simp <;> with_reducible rfl)
            simp only [Act.put, List.setIfInBounds_toArray, List.set_cons_zero, List.set_cons_succ]
            refine wpAnyH_take (i := 8) (oi := { dst := some 163, op := Go.Op.indexAddr 31 (Go.Operand.tmp 161) (Go.Operand.tmp 162), type := 0, pos := "ref.go:103", after := #[{ on := 6, ground := Go.Ground.data }, { on := 7, ground := Go.Ground.data }, { on := 12, ground := Go.Ground.gcOnly Go.Departure.lateStores }], guard := none }) (v := ?_) rfl (by kernel_rfl) (by kernel_rfl) (by kernel_rfl) (fun _ _ _ h => h) (Or.inl ⟨by rfl, ?_⟩) hHeld ?_
            rotate_left 1
            · (intro w hSw; (try dsimp only at hSw); go_simp <;> with_reducible rfl)
            simp only [Act.put, List.setIfInBounds_toArray, List.set_cons_zero, List.set_cons_succ]
            refine wpAnyH_take (i := 9) (oi := { dst := some 164, op := Go.Op.load 37 (Go.Operand.tmp 163), type := 37, pos := "ref.go:103", after := #[{ on := 8, ground := Go.Ground.data }, { on := 12, ground := Go.Ground.gcOnly Go.Departure.lateStores }], guard := none }) (v := _) rfl (by kernel_rfl) (by kernel_rfl) (by kernel_rfl) (fun _ _ _ h => h) (yieldsIf_load_mid rfl 37 _ rfl TB2 (tp2 + j * 12) rfl q.toList _ (fun w h => h.2.2.2) Tryz.underlying37 rfl hiq) hHeld ?_
            simp only [Act.put, List.setIfInBounds_toArray, List.set_cons_zero, List.set_cons_succ]
            refine wpAnyH_ready (rs := [10, 11]) (by kernel_rfl) (by simp) ?_
            refine AllReadyH.cons (o := { dst := some 7, op := Go.Op.alloc 37, type := 0, pos := "ref.go:103", after := #[], guard := none }) rfl (fun K hK => ?_) (AllReadyH.cons (o := { dst := some 8, op := Go.Op.alloc 37, type := 0, pos := "ref.go:103", after := #[], guard := none }) rfl (fun K hK => ?_) AllReadyH.nil)
            · go_simp
              refine hK.out _ _ (hk13 (bel1 wr _).drew) (fun hHeld => ?_)
              clear hK K
              refine wpAnyH_ready (rs := [11]) (by kernel_rfl) (by simp) ?_
              refine AllReadyH.cons (o := { dst := some 8, op := Go.Op.alloc 37, type := 0, pos := "ref.go:103", after := #[], guard := none }) rfl (fun K hK => ?_) AllReadyH.nil
              go_simp
              refine hK.out _ _ (hk13 (bel2 (bel1 wr _) (bel1 _ _)).drew) (fun hHeld => ?_)
              clear hK K
              change wpAnyH _ _ _ _ _ _ _ _ (World.drew ((wr.alloc (.cells zU 37)).alloc (.cells zU 37)))
              have n1 : ((World.drew ((wr.alloc (.cells zU 37)).alloc (.cells zU 37)))).heap[wr.heap.size]? = some (.cells zU 37 (0, 0)) := heap_alloc2_old wr _ _
              have n2 : ((World.drew ((wr.alloc (.cells zU 37)).alloc (.cells zU 37)))).heap[wr.heap.size + 1]? = some (.cells zU 37 (0, 0)) := heap_alloc2_new wr _ _
              have nb : Hid (Below wr.heap.size wr ((World.drew ((wr.alloc (.cells zU 37)).alloc (.cells zU 37))))) := (bel2 (bel1 wr _) (bel1 _ _)).drew
              generalize (World.drew ((wr.alloc (.cells zU 37)).alloc (.cells zU 37))) = Wx at n1 n2 nb hHeld ⊢
              refine wpAnyH_ready (rs := [12]) (by kernel_rfl) (by simp) ?_
              refine AllReadyH.cons (o := { dst := none, op := Go.Op.store 37 (Go.Operand.tmp 7) (Go.Operand.tmp 159), type := 0, pos := "ref.go:103", after := #[{ on := 10, ground := Go.Ground.data }, { on := 4, ground := Go.Ground.data }, { on := 0, ground := Go.Ground.phase }, { on := 1, ground := Go.Ground.phase }, { on := 2, ground := Go.Ground.phase }, { on := 3, ground := Go.Ground.phase }, { on := 4, ground := Go.Ground.phase }, { on := 5, ground := Go.Ground.textOnly Go.Departure.lateStores }, { on := 6, ground := Go.Ground.textOnly Go.Departure.lateStores }, { on := 7, ground := Go.Ground.textOnly Go.Departure.lateStores }, { on := 8, ground := Go.Ground.textOnly Go.Departure.lateStores }, { on := 9, ground := Go.Ground.textOnly Go.Departure.lateStores }, { on := 10, ground := Go.Ground.phase }, { on := 11, ground := Go.Ground.phase }], guard := none }) rfl (fun K hK => ?_) AllReadyH.nil
              rw [if_pos (by rfl)]
              refine wp_store_row 37 _ _ rfl (wr.heap.size) r rfl rfl 37 zU n1 hir' hz1 har ?_
              refine hK.out _ _ (hk13 (show Below wr.heap.size wr (Wx.setRow (wr.heap.size) r) from below_setRow nb.out (by omega) _)) (fun hHeld => ?_)
              clear hK K
              simp only [Act.put]
              refine wpAnyH_ready (rs := [13]) (by kernel_rfl) (by simp) ?_
              refine AllReadyH.cons (o := { dst := none, op := Go.Op.store 37 (Go.Operand.tmp 8) (Go.Operand.tmp 164), type := 0, pos := "ref.go:103", after := #[{ on := 11, ground := Go.Ground.data }, { on := 9, ground := Go.Ground.data }, { on := 12, ground := Go.Ground.chain }, { on := 0, ground := Go.Ground.phase }, { on := 1, ground := Go.Ground.phase }, { on := 2, ground := Go.Ground.phase }, { on := 3, ground := Go.Ground.phase }, { on := 4, ground := Go.Ground.phase }, { on := 5, ground := Go.Ground.phase }, { on := 6, ground := Go.Ground.phase }, { on := 7, ground := Go.Ground.phase }, { on := 8, ground := Go.Ground.phase }, { on := 9, ground := Go.Ground.phase }, { on := 10, ground := Go.Ground.phase }, { on := 11, ground := Go.Ground.phase }, { on := 12, ground := Go.Ground.phase }], guard := none }) rfl (fun K hK => ?_) AllReadyH.nil
              rw [if_pos (by rfl)]
              refine wp_store_row 37 _ _ rfl (wr.heap.size + 1) q rfl rfl 37 zU (show (Wx.setRow (wr.heap.size) r).heap[wr.heap.size + 1]? = _ from (setRow_other _ _ _ _ (by omega)).trans n2) hiq' hz2 haq ?_
              refine hK.out _ _ (hk13 (show Below wr.heap.size wr ((Wx.setRow (wr.heap.size) r).setRow (wr.heap.size + 1) q) from below_setRow (below_setRow nb.out (by omega) _) (by omega) _)) (fun hHeld => ?_)
              clear hK K
              simp only [Act.put]
              refine wpAnyH_done (by kernel_rfl) ?_ _
              go_wp2_with fail
              go_meet
              case rel => exact ⟨wr.heap.size, wr.heap.size + 1, rfl, rfl, ⟨(setRow_other (Wx.setRow (wr.heap.size) r) (wr.heap.size + 1) (wr.heap.size) q (by omega)).trans (setRow_heap Wx (wr.heap.size) zU r 37 (0, 0) n1), setRow_heap (Wx.setRow (wr.heap.size) r) (wr.heap.size + 1) zU q 37 (0, 0) ((setRow_other Wx (wr.heap.size) (wr.heap.size + 1) r (by omega)).trans n2), below_setRow (below_setRow nb.out (by omega) _) (by omega) _⟩⟩
            · go_simp
              refine hK.out _ _ (hk13 (bel1 wr _).drew) (fun hHeld => ?_)
              clear hK K
              refine wpAnyH_ready (rs := [10]) (by kernel_rfl) (by simp) ?_
              refine AllReadyH.cons (o := { dst := some 7, op := Go.Op.alloc 37, type := 0, pos := "ref.go:103", after := #[], guard := none }) rfl (fun K hK => ?_) AllReadyH.nil
              go_simp
              refine hK.out _ _ (hk13 (bel2 (bel1 wr _) (bel1 _ _)).drew) (fun hHeld => ?_)
              clear hK K
              change wpAnyH _ _ _ _ _ _ _ _ (World.drew ((wr.alloc (.cells zU 37)).alloc (.cells zU 37)))
              have n1 : ((World.drew ((wr.alloc (.cells zU 37)).alloc (.cells zU 37)))).heap[wr.heap.size]? = some (.cells zU 37 (0, 0)) := heap_alloc2_old wr _ _
              have n2 : ((World.drew ((wr.alloc (.cells zU 37)).alloc (.cells zU 37)))).heap[wr.heap.size + 1]? = some (.cells zU 37 (0, 0)) := heap_alloc2_new wr _ _
              have nb : Hid (Below wr.heap.size wr ((World.drew ((wr.alloc (.cells zU 37)).alloc (.cells zU 37))))) := (bel2 (bel1 wr _) (bel1 _ _)).drew
              generalize (World.drew ((wr.alloc (.cells zU 37)).alloc (.cells zU 37))) = Wx at n1 n2 nb hHeld ⊢
              refine wpAnyH_ready (rs := [12]) (by kernel_rfl) (by simp) ?_
              refine AllReadyH.cons (o := { dst := none, op := Go.Op.store 37 (Go.Operand.tmp 7) (Go.Operand.tmp 159), type := 0, pos := "ref.go:103", after := #[{ on := 10, ground := Go.Ground.data }, { on := 4, ground := Go.Ground.data }, { on := 0, ground := Go.Ground.phase }, { on := 1, ground := Go.Ground.phase }, { on := 2, ground := Go.Ground.phase }, { on := 3, ground := Go.Ground.phase }, { on := 4, ground := Go.Ground.phase }, { on := 5, ground := Go.Ground.textOnly Go.Departure.lateStores }, { on := 6, ground := Go.Ground.textOnly Go.Departure.lateStores }, { on := 7, ground := Go.Ground.textOnly Go.Departure.lateStores }, { on := 8, ground := Go.Ground.textOnly Go.Departure.lateStores }, { on := 9, ground := Go.Ground.textOnly Go.Departure.lateStores }, { on := 10, ground := Go.Ground.phase }, { on := 11, ground := Go.Ground.phase }], guard := none }) rfl (fun K hK => ?_) AllReadyH.nil
              rw [if_pos (by rfl)]
              refine wp_store_row 37 _ _ rfl (wr.heap.size + 1) r rfl rfl 37 zU n2 hir' hz1 har ?_
              refine hK.out _ _ (hk13 (show Below wr.heap.size wr (Wx.setRow (wr.heap.size + 1) r) from below_setRow nb.out (by omega) _)) (fun hHeld => ?_)
              clear hK K
              simp only [Act.put]
              refine wpAnyH_ready (rs := [13]) (by kernel_rfl) (by simp) ?_
              refine AllReadyH.cons (o := { dst := none, op := Go.Op.store 37 (Go.Operand.tmp 8) (Go.Operand.tmp 164), type := 0, pos := "ref.go:103", after := #[{ on := 11, ground := Go.Ground.data }, { on := 9, ground := Go.Ground.data }, { on := 12, ground := Go.Ground.chain }, { on := 0, ground := Go.Ground.phase }, { on := 1, ground := Go.Ground.phase }, { on := 2, ground := Go.Ground.phase }, { on := 3, ground := Go.Ground.phase }, { on := 4, ground := Go.Ground.phase }, { on := 5, ground := Go.Ground.phase }, { on := 6, ground := Go.Ground.phase }, { on := 7, ground := Go.Ground.phase }, { on := 8, ground := Go.Ground.phase }, { on := 9, ground := Go.Ground.phase }, { on := 10, ground := Go.Ground.phase }, { on := 11, ground := Go.Ground.phase }, { on := 12, ground := Go.Ground.phase }], guard := none }) rfl (fun K hK => ?_) AllReadyH.nil
              rw [if_pos (by rfl)]
              refine wp_store_row 37 _ _ rfl (wr.heap.size) q rfl rfl 37 zU (show (Wx.setRow (wr.heap.size + 1) r).heap[wr.heap.size]? = _ from (setRow_other _ _ _ _ (by omega)).trans n1) hiq' hz2 haq ?_
              refine hK.out _ _ (hk13 (show Below wr.heap.size wr ((Wx.setRow (wr.heap.size + 1) r).setRow (wr.heap.size) q) from below_setRow (below_setRow nb.out (by omega) _) (by omega) _)) (fun hHeld => ?_)
              clear hK K
              simp only [Act.put]
              refine wpAnyH_done (by kernel_rfl) ?_ _
              go_wp2_with fail
              go_meet
              case rel => exact ⟨wr.heap.size + 1, wr.heap.size, rfl, rfl, ⟨(setRow_other (Wx.setRow (wr.heap.size + 1) r) (wr.heap.size) (wr.heap.size + 1) q (by omega)).trans (setRow_heap Wx (wr.heap.size + 1) zU r 37 (0, 0) n2), setRow_heap (Wx.setRow (wr.heap.size + 1) r) (wr.heap.size) zU q 37 (0, 0) ((setRow_other Wx (wr.heap.size + 1) (wr.heap.size) r (by omega)).trans n1), below_setRow (below_setRow nb.out (by omega) _) (by omega) _⟩⟩
          case rest =>
            obtain ⟨g7, g8, rfl, rfl, HC⟩ := hcut
            have z3 : ∀ j, wc.cell? ⟨g7, j, none⟩ = r[j]? := fun j => cell_of_row wc _ j r 37 (0, 0) HC.out.1
            have y3 : ∀ j, wc.cell? ⟨g8, j, none⟩ = q[j]? := fun j => cell_of_row wc _ j q 37 (0, 0) HC.out.2.1
            clear g3 d3 z24 y24 l1 l2 hir hiq hir' hiq' har haq sr sq hz1 hz2
            go_wp2_with fail
            refine (KV.out _ (bel2 HBw.out HC.out.2.2)).mono ?_
            rintro e w5 ⟨⟨r5, rfl, hr5⟩, hb5⟩
            obtain rfl := hr5.2 trivial
            have z5 : ∀ j, w5.cell? ⟨g7, j, none⟩ = r[j]? := fun j => cell_of_row w5 _ j r 37 (0, 0) (row_below hb5 HC.out.1)
            have y5 : ∀ j, w5.cell? ⟨g8, j, none⟩ = q[j]? := fun j => cell_of_row w5 _ j q 37 (0, 0) (row_below hb5 HC.out.2.1)
            have B5 : Hid (Below wr.heap.size wr w5) := bel2 HC.out.2.2 hb5
            clear hr5 hb5 z3 y3 i1 i2 i3 i4 i5 p1 p2 p3 p4 p5 KV
            go_wp2_with fail
            refine (KO.out _ (bel2 HBw.out B5.out)).mono ?_
            rintro e w6 ⟨⟨r6, rfl, hr6⟩, hb6⟩
            obtain rfl := hr6.2 trivial
            have B6 : Hid (Below wr.heap.size wr w6) := bel2 B5.out hb6
            clear hr6 hb6 z5 y5 j1 j2 j3 j4 j5 q1 q2 q3 q4 q5 KO
            go_wp2_with fail
            exact ⟨⟨j + 1, hlt, by rw [HW1.out], bel2 HB.out B6.out⟩, meas hlt HW1.out⟩
        · obtain rfl : j = s.up.length := by omega
          go_wp2_with fail
          go_ret
          exact ⟨rfl, bel2 B3.out HB.out⟩
end Go.Proofs.YthphgkaifnacbaaGreat
namespace Go.Proofs.YthphgkaifnacbaaGreat
open Go.ChangeShapes Go.WideShapes Go.ChangeAt Go.RowKit
/-- The order of texts. -/
theorem bl_asymm : ∀ a b : List UInt8, Op.bytesLess a b = true → Op.bytesLess b a = false
  | [], [], h => by simp [Op.bytesLess] at h
  | [], _ :: _, _ => rfl
  | _ :: _, [], h => by simp [Op.bytesLess] at h
  | a :: x, b :: y, h => by
    simp only [Op.bytesLess, Bool.or_eq_true, Bool.and_eq_true, decide_eq_true_eq, beq_iff_eq] at h
    simp only [Op.bytesLess, Bool.or_eq_false_iff, Bool.and_eq_false_iff, decide_eq_false_iff_not, beq_eq_false_iff_ne]
    rcases h with h | ⟨rfl, h⟩
    · exact ⟨fun h2 => by rw [UInt8.lt_iff_toNat_lt] at h h2; omega, .inl (fun e => by subst e; rw [UInt8.lt_iff_toNat_lt] at h; omega)⟩
    · exact ⟨fun h2 => by rw [UInt8.lt_iff_toNat_lt] at h2; omega, .inr (bl_asymm x y h)⟩
theorem bl_trans : ∀ a b c : List UInt8, Op.bytesLess a b = true → Op.bytesLess b c = true → Op.bytesLess a c = true
  | _, _, [], _, h => by simp [Op.bytesLess] at h
  | _, [], _ :: _, h, _ => by simp [Op.bytesLess] at h
  | [], _ :: _, _ :: _, _, _ => rfl
  | a :: x, b :: y, c :: z, h, g => by
    simp only [Op.bytesLess, Bool.or_eq_true, Bool.and_eq_true, decide_eq_true_eq, beq_iff_eq] at *
    rcases h with h | ⟨rfl, h⟩ <;> rcases g with g | ⟨rfl, g⟩
    · exact .inl (by rw [UInt8.lt_iff_toNat_lt] at *; omega)
    · exact .inl h
    · exact .inl g
    · exact .inr ⟨rfl, bl_trans x y z h g⟩
theorem bl_tri : ∀ a b : List UInt8, Op.bytesLess a b = false → a ≠ b → Op.bytesLess b a = true
  | [], [], _, h => absurd rfl h
  | [], _ :: _, h, _ => by simp [Op.bytesLess] at h
  | _ :: _, [], _, _ => rfl
  | a :: x, b :: y, h, hne => by
    simp only [Op.bytesLess, Bool.or_eq_false_iff, Bool.and_eq_false_iff, decide_eq_false_iff_not, beq_eq_false_iff_ne] at h
    simp only [Op.bytesLess, Bool.or_eq_true, Bool.and_eq_true, decide_eq_true_eq, beq_iff_eq]
    by_cases e : a = b
    · subst e
      refine .inr ⟨rfl, bl_tri x y ?_ (fun e => hne (by rw [e]))⟩
      rcases h.2 with h2 | h2
      · exact absurd rfl h2
      · exact h2
    · refine .inl ?_
      have h1 := h.1
      rw [UInt8.lt_iff_toNat_lt] at *
      have : a.toNat ≠ b.toNat := fun e2 => e (UInt8.toNat_inj.1 e2)
      omega
/-- Not above. -/
def leS (a b : ByteArray) : Bool := Op.bytesLess a.toList b.toList || a.toList == b.toList
theorem leS_gt (a b : ByteArray) : (!leS a b) = gtS a b := by unfold leS gtS; rw [Bool.not_or]
theorem lt_of_not {a b : ByteArray} (h : gtS a b = false) (he : eqS a b = false) : Op.bytesLess a.toList b.toList = true := by
  unfold gtS at h
  unfold eqS at he
  rw [he] at h
  simpa using h
theorem gt_of_lt {a b : ByteArray} (h : Op.bytesLess a.toList b.toList = true) : gtS b a = true := by
  unfold gtS
  rw [bl_asymm _ _ h]
  simp only [Bool.not_false, Bool.true_and, Bool.not_eq_eq_eq_not, Bool.not_true, beq_eq_false_iff_ne, ne_eq]
  intro e
  rw [e] at h
  have := bl_asymm _ _ h
  rw [h] at this
  cases this
theorem lt_of_gt {a b : ByteArray} (h : gtS b a = true) : Op.bytesLess a.toList b.toList = true := by
  unfold gtS at h
  simp only [Bool.and_eq_true, Bool.not_eq_eq_eq_not, Bool.not_true, beq_eq_false_iff_ne, ne_eq] at h
  exact bl_tri _ _ h.1 h.2
/-- A timer that may be behind last. -/
def TmP (n : Nat) (last : ByteArray) (t : Tm) : Prop := MayE n (eisName t.s) ∧ leS t.s last = false ∧ wb t.d 0 2199023255552 = true
/-- An update that may be behind last. -/
def UpP (n : Nat) (last : ByteArray) (u : Up) : Prop := MayE n (eisName u.s) ∧ leS u.s last = false ∧ May n u.v ∧ OutP n u
def RzT (n : Nat) : ByteArray → List Tm → Prop
  | _, [] => True
  | last, t :: l => TmP n last t ∧ RzT n t.s l
def RzU (n : Nat) : ByteArray → List Up → Prop
  | _, [] => True
  | last, u :: l => UpP n last u ∧ RzU n u.s l
def TimP (n : Nat) (l : List Tm) : Prop := l.length ≤ 10 ∧ RzT n ⟨#[]⟩ l
def UpdP (n : Nat) (l : List Up) : Prop := l.length ≤ 10 ∧ RzU n ⟨#[]⟩ l
theorem drop_at {α : Type} {l : List α} {j : Nat} {x : α} (h : l[j]? = some x) : l.drop j = x :: l.drop (j + 1) := by
  have hj := (List.getElem?_eq_some_iff.1 h).1
  rw [List.drop_eq_getElem_cons hj]
  rw [List.getElem?_eq_getElem hj] at h
  injection h with h
  rw [h]
theorem rows_below2 {w w' : World} {a : Option Addr} {rows : List (Array Value)} (h : RowS (fun _ => True) w a 2 rows) (hb : Below w.heap.size w w') : RowS (fun _ => True) w' a 2 rows := h.map (fun _ _ h => h) (fun _ _ _ hv => cell_below hv hb) (by decide)
theorem tm_lies {w : World} {a : Option Addr} {l : List Tm} (h : RowS (fun _ => True) w a 2 (l.map Tm.cells)) {j : Nat} {t : Tm} (hj : l[j]? = some t) : ∃ B o, a = some ⟨B, o, none⟩ ∧ w.cell? ⟨B, o + j * 2, none⟩ = some (.string t.s) ∧ w.cell? ⟨B, o + j * 2 + 1, none⟩ = some (.int .i64 t.d) := by
  obtain ⟨_, _, B, o, ha, _, hl⟩ := h j t.cells (by rw [List.getElem?_map, hj]; rfl)
  exact ⟨B, o, ha, hl 0 _ rfl, hl 1 _ rfl⟩
set_option maxHeartbeats 8000000 in
set_option maxRecDepth 100000 in
theorem timersFit_calls (N : Nat) (ds : List Tm) (a : Option Addr) (n c : Nat) (hn : ds.length = n) (w : World) (h : RowS (fun _ => True) w a 2 (ds.map Tm.cells)) :
    Calls Tryz.prog 26 #[.slice a n c] w (BqP (TimP (N + 1) ds) w) := by
  by_cases h10 : n ≤ 10
  · have d1 : decide (10 < (n : Int)) = false := decide_eq_false (by omega)
    have d2 : decide (10 < n) = false := decide_eq_false (by omega)
    have HQ : Hid (∀ (b : Bool) w', (b = true ↔ RzT (N + 1) ⟨#[]⟩ ds) → Below w.heap.size w w' → BqP (TimP (N + 1) ds) w (.returned (.bool b)) w') := fun b w' h hb => bq_mk (h.trans ⟨fun h => ⟨by omega, h⟩, fun h => h.2⟩) hb
    have HH : Hid (RowS (fun _ => True) w a 2 (ds.map Tm.cells)) := h
    have HN : Hid (ds.length = n) := hn
    have HL : Hid (n ≤ 10) := h10
    generalize BqP (TimP (N + 1) ds) w = Q at HQ ⊢
    have HT : Hid (RzT (N + 1) ⟨#[]⟩ ds ↔ RzT (N + 1) ⟨#[]⟩ ds) := Iff.rfl
    generalize hC : RzT (N + 1) ⟨#[]⟩ ds = C at HQ
    have HC0 : Hid (C ↔ RzT (N + 1) ⟨#[]⟩ (ds.drop 0)) := by show _ ↔ _; rw [← hC, List.drop_zero]
    clear h hn h10 HT hC
    go_enter Tryz.func26, Tryz.ntmps26
    go_wp2_with fail
    go_loopw [3, 5, 11] (fun ls _ i wr => ∃ (j : Nat) (last : ByteArray), j ≤ n ∧ i = .int .i64 (j : Int) ∧ ls = .string last ∧ Hid (C ↔ RzT (N + 1) last (ds.drop j)) ∧ Hid (Below w.heap.size w wr)) (fun _ _ i _ => n - (intOf i).toNat)
    case atStart => exact ⟨0, _, Nat.zero_le _, rfl, rfl, HC0, Below.refl _ _⟩
    case round =>
      obtain ⟨j, last, hj, rfl, rfl, HC, HB⟩ := hrel
      by_cases hlt : j < n
      · obtain ⟨d, hd⟩ : ∃ d, ds[j]? = some d := ⟨_, List.getElem?_eq_getElem (by rw [HN.out]; exact hlt)⟩
        obtain ⟨B, o, rfl, hl⟩ := tm_lies (rows_below2 HH.out HB.out) hd
        obtain ⟨q0, q1⟩ := hl
        have HC2 : Hid (C ↔ TmP (N + 1) last d ∧ RzT (N + 1) d.s (ds.drop (j + 1))) := by have := HC.out; rw [drop_at hd] at this; exact this
        have KN : Hid (∀ W, Calls Tryz.prog 53 #[.string d.s] W (BqP (MayE (N + 1) (eisName d.s)) W)) := fun W => isName_calls N d.s W
        have KW : Hid (∀ W, Calls Tryz.prog 52 #[.int .i64 d.d, .int .i64 0, .int .i64 2199023255552] W fun e w' => e = .returned (.bool (wb d.d 0 2199023255552)) ∧ w' = W) := fun W => swithin_calls d.d 0 2199023255552 W
        have HC3 : Hid (C ↔ (MayE (N + 1) (eisName d.s) ∧ leS d.s last = false ∧ wb d.d 0 2199023255552 = true) ∧ RzT (N + 1) d.s (ds.drop (j + 1))) := HC2.out
        generalize MayE (N + 1) (eisName d.s) = M1 at KN HC3
        generalize wb d.d 0 2199023255552 = b2 at KW HC3
        have HW : Hid (wrap64 ((j : Int) + 1) = ((j + 1 : Nat) : Int)) := wr1 hlt (by have := HL.out; omega)
        have hjn : (j : Int) < (n : Int) := by omega
        clear hd HC HC2 HC0
        go_upto_region 7 with fail
        have HB1 : Hid (Below w.heap.size w (wr.alloc (.cells #[.string d.s, .int .i64 d.d] 56))) := bel2 HB.out (bel1 wr _)
        have m1 : (wr.alloc (.cells #[.string d.s, .int .i64 d.d] 56)).heap[wr.heap.size]? = some (.cells #[.string d.s, .int .i64 d.d] 56 (0, 0)) := heap_alloc_new wr _
        generalize wr.alloc (.cells #[.string d.s, .int .i64 d.d] 56) = W1 at HB1 m1 ⊢
        have x0 : W1.cell? ⟨wr.heap.size, 0, none⟩ = some (.string d.s) := row_cell m1 rfl
        have M1 : Hid (W1.heap[wr.heap.size]? = some (.cells #[.string d.s, .int .i64 d.d] 56 (0, 0))) := m1
        clear q0 q1 m1
        go_wp2_with fail
        refine (KN.out W1).mono ?_
        rintro e w1 ⟨⟨b1, rfl, i1⟩, hb⟩
        have H1 : Hid (b1 = true ↔ _) := i1
        have HB2 : Hid (Below w.heap.size w w1) := bel2 HB1.out hb
        have y0 : w1.cell? ⟨wr.heap.size, 0, none⟩ = some (.string d.s) := row_cell (row_below hb M1.out) rfl
        have y1 : w1.cell? ⟨wr.heap.size, 1, none⟩ = some (.int .i64 d.d) := row_cell (row_below hb M1.out) rfl
        clear hb i1 KN x0 HB HB1 M1
        cases b1 with
        | false =>
          go_wp2_with fail
          exact HQ.out _ _ ⟨fun h => (by cases h), fun h => H1.out.2 (HC3.out.1 h).1.1⟩ HB2.out
        | true =>
          cases hle : leS d.s last with
          | true =>
            have HF : Hid (¬ C) := fun h => by have := (HC3.out.1 h).1.2.1; rw [hle] at this; cases this
            have hle2 : (Op.bytesLess d.s.toList last.toList || d.s.toList == last.toList) = true := hle
            clear hle HC3
            cases hx : Op.bytesLess d.s.toList last.toList with
            | true =>
              go_wp2_with fail
              exact HQ.out _ _ ⟨fun h => (by cases h), fun h => absurd h HF.out⟩ HB2.out
            | false =>
              rw [hx, Bool.false_or] at hle2
              go_wp2_with fail
              exact HQ.out _ _ ⟨fun h => (by cases h), fun h => absurd h HF.out⟩ HB2.out
          | false =>
            have HC4 : Hid (C ↔ b2 = true ∧ RzT (N + 1) d.s (ds.drop (j + 1))) := HC3.out.trans ⟨fun h => ⟨h.1.2.2, h.2⟩, fun h => ⟨⟨H1.out.1 (by first | rfl | trivial), hle, h.1⟩, h.2⟩⟩
            have hle2 : (Op.bytesLess d.s.toList last.toList || d.s.toList == last.toList) = false := hle
            rw [Bool.or_eq_false_iff] at hle2
            obtain ⟨hx, hy⟩ := hle2
            clear hle HC3
            go_wp2_with fail
            refine (KW.out w1).mono ?_
            rintro e w2 ⟨rfl, hw⟩
            have hw' := hw.symm
            subst hw'
            clear hw KW
            cases b2 with
            | false =>
              go_wp2_with fail
              exact HQ.out _ _ ⟨fun h => (by cases h), fun h => by have := (HC4.out.1 h).1; cases this⟩ HB2.out
            | true =>
              have HF : Hid (C ↔ RzT (N + 1) d.s (ds.drop (j + 1))) := HC4.out.trans ⟨fun h => h.2, fun h => ⟨rfl, h⟩⟩
              go_wp2_with fail
              exact ⟨⟨j + 1, _, hlt, by first | rw [HW.out] | exact congrArg _ (Int.natCast_succ j).symm, rfl, HF, HB2⟩, by first | exact meas hlt HW.out | exact meas hlt (Int.natCast_succ j).symm⟩
      · obtain rfl : j = n := by omega
        have hta : ds.drop j = [] := by rw [← HN.out, List.drop_length]
        have HF : Hid C := by have := HC.out; rw [hta] at this; exact this.2 trivial
        have hjn : decide ((j : Int) < (j : Int)) = false := decide_eq_false (by omega)
        go_wp2_with fail
        exact HQ.out _ _ ⟨fun _ => HF.out, fun _ => rfl⟩ HB.out
  · have d1 : decide (10 < (n : Int)) = true := decide_eq_true (by omega)
    have d2 : decide (10 < n) = true := decide_eq_true (by omega)
    have HF : Hid (¬ TimP (N + 1) ds) := fun h => by have := h.1; omega
    clear h hn h10
    go_enter Tryz.func26, Tryz.ntmps26
    go_wp2_with fail
    go_ret
    exact bq_mk ⟨fun h => (by cases h), fun h => absurd h HF.out⟩ (Below.refl _ _)
set_option maxHeartbeats 8000000 in
set_option maxRecDepth 100000 in
theorem updatesFit_calls (N : Nat) (ds : List Up) (a : Option Addr) (n c : Nat) (hn : ds.length = n) (w : World) (us : List (Array Value)) (hl : us.length = ds.length) (h : RowS (fun _ => True) w a 12 us) (hu : ∀ (i : Nat) r u, us[i]? = some r → ds[i]? = some u → IsU (Is w (N + 1)) r u) :
    Calls Tryz.prog 27 #[.slice a n c] w (BqP (UpdP (N + 1) ds) w) := by
  by_cases h10 : n ≤ 10
  · have d1 : decide (10 < (n : Int)) = false := decide_eq_false (by omega)
    have d2 : decide (10 < n) = false := decide_eq_false (by omega)
    have HQ : Hid (∀ (b : Bool) w', (b = true ↔ RzU (N + 1) ⟨#[]⟩ ds) → Below w.heap.size w w' → BqP (UpdP (N + 1) ds) w (.returned (.bool b)) w') := fun b w' h hb => bq_mk (h.trans ⟨fun h => ⟨by omega, h⟩, fun h => h.2⟩) hb
    have HH : Hid (RowS (fun _ => True) w a 12 us) := h
    have HU : Hid (us.length = ds.length ∧ ∀ (i : Nat) r u, us[i]? = some r → ds[i]? = some u → IsU (Is w (N + 1)) r u) := ⟨hl, hu⟩
    have HN : Hid (ds.length = n) := hn
    have HL : Hid (n ≤ 10) := h10
    generalize BqP (UpdP (N + 1) ds) w = Q at HQ ⊢
    have HT : Hid (RzU (N + 1) ⟨#[]⟩ ds ↔ RzU (N + 1) ⟨#[]⟩ ds) := Iff.rfl
    generalize hC : RzU (N + 1) ⟨#[]⟩ ds = C at HQ
    have HC0 : Hid (C ↔ RzU (N + 1) ⟨#[]⟩ (ds.drop 0)) := by show _ ↔ _; rw [← hC, List.drop_zero]
    clear h hn h10 HT hC hl hu
    go_enter Tryz.func27, Tryz.ntmps27
    go_wp2_with fail
    go_loopw [3, 5, 11] (fun ls _ i wr => ∃ (j : Nat) (last : ByteArray), j ≤ n ∧ i = .int .i64 (j : Int) ∧ ls = .string last ∧ Hid (C ↔ RzU (N + 1) last (ds.drop j)) ∧ Hid (Below w.heap.size w wr)) (fun _ _ i _ => n - (intOf i).toNat)
    case atStart => exact ⟨0, _, Nat.zero_le _, rfl, rfl, HC0, Below.refl _ _⟩
    case round =>
      obtain ⟨j, last, hj, rfl, rfl, HC, HB⟩ := hrel
      by_cases hlt : j < n
      · obtain ⟨d, hd⟩ : ∃ d, ds[j]? = some d := ⟨_, List.getElem?_eq_getElem (by rw [HN.out]; exact hlt)⟩
        obtain ⟨r, hr⟩ : ∃ r, us[j]? = some r := ⟨_, List.getElem?_eq_getElem (by rw [HU.out.1, HN.out]; exact hlt)⟩
        have hiu := HU.out.2 j r d hr hd
        obtain ⟨hsz, hone, B, o, rfl, _, hli⟩ := (HH.out.map (ok' := fun _ => True) (fun _ _ h => h) (fun _ _ _ hv => cell_below hv HB.out) (by decide)) j r hr
        have hrng := lies_range hli
        have hi40 : (Tryz.prog.info? 37).map (·.size) = some r.toList.length := by rw [Array.length_toList]; exact info40s r hsz
        have hi37 := info40s r hsz
        have r0 := hiu.c0
        obtain ⟨k0, x0, b0, s0, a0, m0, n0, h1, h2, h3, h4, h5, hv⟩ := hiu.v
        have HC3 : Hid (C ↔ (MayE (N + 1) (eisName d.s) ∧ leS d.s last = false ∧ May (N + 1) d.v ∧ OutP (N + 1) d) ∧ RzU (N + 1) d.s (ds.drop (j + 1))) := by have := HC.out; rw [drop_at hd] at this; exact this
        have KN : Hid (∀ W, Calls Tryz.prog 53 #[.string d.s] W (BqP (MayE (N + 1) (eisName d.s)) W)) := fun W => isName_calls N d.s W
        have KV : Hid (∀ W, Below w.heap.size w W → Calls Tryz.prog 54 #[.agg #[.int .i64 k0, .int .i64 x0, .int .u64 b0, .string s0, .slice a0 m0 n0]] W (BqP (May (N + 1) d.v) W)) := fun W hb => mayBe_calls (N + 1) d.v k0 x0 b0 s0 a0 m0 n0 W (hv.below hb)
        have KO : Hid (∀ W, Below w.heap.size w W → Calls Tryz.prog 59 #[.agg r] W (BqP (OutP (N + 1) d) W)) := fun W hb => outcomeFits_calls N r d W (hiu.map fun v t h => h.below hb)
        generalize MayE (N + 1) (eisName d.s) = M1 at KN HC3
        generalize May (N + 1) d.v = M2 at KV HC3
        generalize OutP (N + 1) d = M3 at KO HC3
        have HW : Hid (wrap64 ((j : Int) + 1) = ((j + 1 : Nat) : Int)) := wr1 hlt (by have := HL.out; omega)
        have hjn : (j : Int) < (n : Int) := by omega
        have n1 : (wr.alloc (.cells zU 37)).heap[wr.heap.size]? = some (.cells zU 37 (0, 0)) := heap_alloc_new wr _
        have hs12 : zU.size = r.size := hsz.symm
        have h140 := all_one hiu.one
        have HB1 : Hid (Below w.heap.size w (wr.alloc (.cells r 37))) := bel2 HB.out (bel1 wr _)
        have m1 : (wr.alloc (.cells r 37)).heap[wr.heap.size]? = some (.cells r 37 (0, 0)) := heap_alloc_new wr _
        clear hd HC HC0 hr hiu hli hv hsz
        go_upto_region 7 with (first
          | refine wpList_load_mid rfl 37 _ rfl B (o + j * 12) rfl r.toList _ hrng Tryz.underlying37 rfl hi40 ?_
          | refine wpList_store_row rfl 37 _ _ rfl wr.heap.size r rfl rfl 37 zU n1 hi37 hs12 h140 ?_)
        rw [World.setRow_alloc_new]
        generalize wr.alloc (.cells r 37) = W1 at HB1 m1 ⊢
        have x0' : W1.cell? ⟨wr.heap.size, 0, none⟩ = some (.string d.s) := row_cell m1 r0
        have M1' : Hid (W1.heap[wr.heap.size]? = some (.cells r 37 (0, 0))) := m1
        clear m1 n1 hrng hi40 hs12 h140 hone
        go_wp2_with fail
        refine (KN.out W1).mono ?_
        rintro e w1 ⟨⟨b1, rfl, i1⟩, hb⟩
        have H1 : Hid (b1 = true ↔ M1) := i1
        have HB2 : Hid (Below w.heap.size w w1) := bel2 HB1.out hb
        have y0 : w1.cell? ⟨wr.heap.size, 0, none⟩ = some (.string d.s) := row_cell (row_below hb M1'.out) r0
        have y1 : w1.cell? ⟨wr.heap.size, 1, none⟩ = some (.int .i64 k0) := row_cell (row_below hb M1'.out) h1
        have y2 : w1.cell? ⟨wr.heap.size, 1 + 1, none⟩ = some (.int .i64 x0) := row_cell (row_below hb M1'.out) h2
        have y3 : w1.cell? ⟨wr.heap.size, 1 + 2, none⟩ = some (.int .u64 b0) := row_cell (row_below hb M1'.out) h3
        have y4 : w1.cell? ⟨wr.heap.size, 1 + 3, none⟩ = some (.string s0) := row_cell (row_below hb M1'.out) h4
        have y5 : w1.cell? ⟨wr.heap.size, 1 + 4, none⟩ = some (.slice a0 m0 n0) := row_cell (row_below hb M1'.out) h5
        have M2' : Hid (w1.heap[wr.heap.size]? = some (.cells r 37 (0, 0))) := row_below hb M1'.out
        clear hb i1 KN x0' HB HB1 M1' h1 h2 h3 h4 h5
        cases b1 with
        | false =>
          go_wp2_with fail
          exact HQ.out _ _ ⟨fun h => (by cases h), fun h => H1.out.2 (HC3.out.1 h).1.1⟩ HB2.out
        | true =>
          cases hle : leS d.s last with
          | true =>
            have HF : Hid (¬ C) := fun h => by have := (HC3.out.1 h).1.2.1; rw [hle] at this; cases this
            have hle2 : (Op.bytesLess d.s.toList last.toList || d.s.toList == last.toList) = true := hle
            clear hle HC3
            cases hx : Op.bytesLess d.s.toList last.toList with
            | true =>
              go_wp2_with fail
              exact HQ.out _ _ ⟨fun h => (by cases h), fun h => absurd h HF.out⟩ HB2.out
            | false =>
              rw [hx, Bool.false_or] at hle2
              go_wp2_with fail
              exact HQ.out _ _ ⟨fun h => (by cases h), fun h => absurd h HF.out⟩ HB2.out
          | false =>
            have HC4 : Hid (C ↔ M2 ∧ M3 ∧ RzU (N + 1) d.s (ds.drop (j + 1))) := HC3.out.trans ⟨fun h => ⟨h.1.2.2.1, h.1.2.2.2, h.2⟩, fun h => ⟨⟨H1.out.1 (by first | rfl | trivial), hle, h.1, h.2.1⟩, h.2.2⟩⟩
            have hle2 : (Op.bytesLess d.s.toList last.toList || d.s.toList == last.toList) = false := hle
            rw [Bool.or_eq_false_iff] at hle2
            obtain ⟨hx, hy⟩ := hle2
            clear hle HC3
            go_wp2_with fail
            refine (KV.out w1 HB2.out).mono ?_
            rintro e w2 ⟨⟨b2, rfl, i2⟩, hb⟩
            have H2 : Hid (b2 = true ↔ M2) := i2
            have HB3 : Hid (Below w.heap.size w w2) := bel2 HB2.out hb
            have m3 : w2.heap[wr.heap.size]? = some (.cells r 37 (0, 0)) := row_below hb M2'.out
            clear hb i2 KV y0 y1 y2 y3 y4 y5 M2' HB2
            cases b2 with
            | false =>
              go_wp2_with fail
              exact HQ.out _ _ ⟨fun h => (by cases h), fun h => H2.out.2 (HC4.out.1 h).1⟩ HB3.out
            | true =>
              go_wp2_with (refine wpList_load_rowG rfl 37 _ rfl wr.heap.size rfl 37 r (0, 0) _ m3 Tryz.underlying37 rfl hi37 ?_)
              refine (KO.out w2 HB3.out).mono ?_
              rintro e w3 ⟨⟨b3, rfl, i3⟩, hb⟩
              have H3 : Hid (b3 = true ↔ M3) := i3
              have HB4 : Hid (Below w.heap.size w w3) := bel2 HB3.out hb
              have z0 : w3.cell? ⟨wr.heap.size, 0, none⟩ = some (.string d.s) := row_cell (row_below hb m3) r0
              clear hb i3 KO m3 HB3
              cases b3 with
              | false =>
                go_wp2_with fail
                exact HQ.out _ _ ⟨fun h => (by cases h), fun h => H3.out.2 (HC4.out.1 h).2.1⟩ HB4.out
              | true =>
                have HF : Hid (C ↔ RzU (N + 1) d.s (ds.drop (j + 1))) := HC4.out.trans ⟨fun h => h.2.2, fun h => ⟨H2.out.1 (by first | rfl | trivial), H3.out.1 (by first | rfl | trivial), h⟩⟩
                go_wp2_with fail
                exact ⟨⟨j + 1, _, hlt, by first | rw [HW.out] | exact congrArg _ (Int.natCast_succ j).symm, rfl, HF, HB4⟩, by first | exact meas hlt HW.out | exact meas hlt (Int.natCast_succ j).symm⟩
      · obtain rfl : j = n := by omega
        have hta : ds.drop j = [] := by rw [← HN.out, List.drop_length]
        have HF : Hid C := by have := HC.out; rw [hta] at this; exact this.2 trivial
        have hjn : decide ((j : Int) < (j : Int)) = false := decide_eq_false (by omega)
        go_wp2_with fail
        exact HQ.out _ _ ⟨fun _ => HF.out, fun _ => rfl⟩ HB.out
  · have d1 : decide (10 < (n : Int)) = true := decide_eq_true (by omega)
    have d2 : decide (10 < n) = true := decide_eq_true (by omega)
    have HF : Hid (¬ UpdP (N + 1) ds) := fun h => by have := h.1; omega
    clear h hn h10 hl hu
    go_enter Tryz.func27, Tryz.ntmps27
    go_wp2_with fail
    go_ret
    exact bq_mk ⟨fun h => (by cases h), fun h => absurd h HF.out⟩ (Below.refl _ _)
end Go.Proofs.YthphgkaifnacbaaGreat
namespace Go.Proofs.YthphgkaifnacbaaGreat
open Go.ChangeShapes Go.WideShapes Go.ChangeAt Go.RowKit
/-- A state that can be. -/
structure CanP (n : Nat) (s : Sta) : Prop where
  num : numB s = true
  start : StartP n s
  ends : EndP n s
  task : TaskP s
  tim : TimP n s.tm
  upd : UpdP n s.up
set_option maxHeartbeats 8000000 in
set_option maxRecDepth 100000 in
theorem can_calls (n : Nat) (cs : Array Value) (s : Sta) (w : World) (h : Rs w (n + 1) cs s) (hc : s.pc < 18446744073709551616) : Calls Tryz.prog 11 #[.agg cs] w (BqP (CanP (n + 1) s) w) := by
  have hi33 := info33s cs h.size
  obtain ⟨ta, tc, c23, ht⟩ := h.tm
  obtain ⟨ua, uc, us, c24, hul, hur, huu⟩ := h.up
  have K1 : Hid (∀ W, Below w.heap.size w W → Calls Tryz.prog 22 #[.agg cs] W fun e w' => e = .returned (.bool (numB s)) ∧ Below W.heap.size W w') := fun W hb => numbersFitS_calls _ _ cs s W (h.below hb)
  have K2 : Hid (∀ W, Below w.heap.size w W → Calls Tryz.prog 23 #[.agg cs] W (BqP (StartP (n + 1) s) W)) := fun W hb => startFits_calls n cs s W (h.below hb) hc
  have K3 : Hid (∀ W, Below w.heap.size w W → Calls Tryz.prog 24 #[.agg cs] W (BqP (EndP (n + 1) s) W)) := fun W hb => endFits_calls n cs s W (h.below hb)
  have K4 : Hid (∀ W, Below w.heap.size w W → Calls Tryz.prog 25 #[.agg cs] W (BqP (TaskP s) W)) := fun W hb => taskFits_calls n cs s W (h.below hb)
  have K5 : Hid (∀ W, Below w.heap.size w W → Calls Tryz.prog 26 #[.slice ta s.tm.length tc] W (BqP (TimP (n + 1) s.tm) W)) := fun W hb => timersFit_calls n s.tm ta _ tc rfl W (rows_below2 ht hb)
  have K6 : Hid (∀ W, Below w.heap.size w W → Calls Tryz.prog 27 #[.slice ua s.up.length uc] W (BqP (UpdP (n + 1) s.up) W)) := fun W hb => updatesFit_calls n s.up ua _ uc rfl W us hul (hur.map (fun _ _ h => h) (fun _ _ _ hv => cell_below hv hb) (by decide)) (fun i r u h1 h2 => (huu i r u h1 h2).map fun v t h => h.below hb)
  have HQ : Hid (∀ (b : Bool) w', (b = true ↔ (numB s = true ∧ StartP (n + 1) s ∧ EndP (n + 1) s ∧ TaskP s ∧ TimP (n + 1) s.tm ∧ UpdP (n + 1) s.up)) → Below w.heap.size w w' → BqP (CanP (n + 1) s) w (.returned (.bool b)) w') := fun b w' h hb => bq_mk (h.trans ⟨fun h => ⟨h.1, h.2.1, h.2.2.1, h.2.2.2.1, h.2.2.2.2.1, h.2.2.2.2.2⟩, fun h => ⟨h.num, h.start, h.ends, h.task, h.tim, h.upd⟩⟩) hb
  generalize BqP (CanP (n + 1) s) w = Q at HQ ⊢
  generalize numB s = b1 at K1 HQ
  generalize StartP (n + 1) s = M2 at K2 HQ
  generalize EndP (n + 1) s = M3 at K3 HQ
  generalize TaskP s = M4 at K4 HQ
  generalize TimP (n + 1) s.tm = M5 at K5 HQ
  generalize UpdP (n + 1) s.up = M6 at K6 HQ
  generalize s.tm.length = tl at K5 c23
  generalize s.up.length = ul at K6 c24
  clear h hc ht hul hur huu
  have hr0 : (w.alloc (.cells cs 33)).heap[w.heap.size]? = some (.cells cs 33 (0, 0)) := heap_alloc_new _ _
  go_enter Tryz.func11, Tryz.ntmps11
  go_wp2_with (refine wpList_load_rowG rfl 33 _ rfl w.heap.size rfl 33 cs (0, 0) _ hr0 Tryz.underlying33 rfl hi33 ?_)
  refine (K1.out _ (bel1 _ _)).mono ?_
  rintro e w1 ⟨rfl, hB⟩
  have HB1 : Hid (Below w.heap.size w w1) := bel2 (bel1 _ _) hB
  have hr1 : w1.heap[w.heap.size]? = some (.cells cs 33 (0, 0)) := row_below hB hr0
  clear hB hr0 K1
  cases b1 with
  | false =>
    go_wp2_with fail
    exact HQ.out _ _ ⟨fun h => (by cases h), fun h => h.1⟩ HB1.out
  | true =>
    go_wp2_with (refine wpList_load_rowG rfl 33 _ rfl w.heap.size rfl 33 cs (0, 0) _ hr1 Tryz.underlying33 rfl hi33 ?_)
    refine (K2.out _ HB1.out).mono ?_
    rintro e w2 ⟨⟨b2, rfl, i2⟩, hB⟩
    have H2 : Hid (b2 = true ↔ M2) := i2
    have HB2 : Hid (Below w.heap.size w w2) := bel2 HB1.out hB
    have hr2 : w2.heap[w.heap.size]? = some (.cells cs 33 (0, 0)) := row_below hB hr1
    clear hB hr1 K2 i2 HB1
    cases b2 with
    | false =>
      go_wp2_with fail
      exact HQ.out _ _ ⟨fun h => (by cases h), fun h => H2.out.2 h.2.1⟩ HB2.out
    | true =>
      go_wp2_with (refine wpList_load_rowG rfl 33 _ rfl w.heap.size rfl 33 cs (0, 0) _ hr2 Tryz.underlying33 rfl hi33 ?_)
      refine (K3.out _ HB2.out).mono ?_
      rintro e w3 ⟨⟨b3, rfl, i3⟩, hB⟩
      have H3 : Hid (b3 = true ↔ M3) := i3
      have HB3 : Hid (Below w.heap.size w w3) := bel2 HB2.out hB
      have hr3 : w3.heap[w.heap.size]? = some (.cells cs 33 (0, 0)) := row_below hB hr2
      clear hB hr2 K3 i3 HB2
      cases b3 with
      | false =>
        go_wp2_with fail
        exact HQ.out _ _ ⟨fun h => (by cases h), fun h => H3.out.2 h.2.2.1⟩ HB3.out
      | true =>
        go_wp2_with (refine wpList_load_rowG rfl 33 _ rfl w.heap.size rfl 33 cs (0, 0) _ hr3 Tryz.underlying33 rfl hi33 ?_)
        refine (K4.out _ HB3.out).mono ?_
        rintro e w4 ⟨⟨b4, rfl, i4⟩, hB⟩
        have H4 : Hid (b4 = true ↔ M4) := i4
        have HB4 : Hid (Below w.heap.size w w4) := bel2 HB3.out hB
        have hr4 : w4.heap[w.heap.size]? = some (.cells cs 33 (0, 0)) := row_below hB hr3
        clear hB hr3 K4 i4 HB3
        cases b4 with
        | false =>
          go_wp2_with fail
          exact HQ.out _ _ ⟨fun h => (by cases h), fun h => H4.out.2 h.2.2.2.1⟩ HB4.out
        | true =>
          have g23 : w4.cell? ⟨w.heap.size, 23, none⟩ = some (.slice ta tl tc) := row_cell hr4 c23
          go_wp2_with fail
          refine (K5.out _ HB4.out).mono ?_
          rintro e w5 ⟨⟨b5, rfl, i5⟩, hB⟩
          have H5 : Hid (b5 = true ↔ M5) := i5
          have HB5 : Hid (Below w.heap.size w w5) := bel2 HB4.out hB
          have hr5 : w5.heap[w.heap.size]? = some (.cells cs 33 (0, 0)) := row_below hB hr4
          clear hB hr4 K5 i5 HB4
          clear g23
          cases b5 with
          | false =>
            go_wp2_with fail
            exact HQ.out _ _ ⟨fun h => (by cases h), fun h => H5.out.2 h.2.2.2.2.1⟩ HB5.out
          | true =>
            have g24 : w5.cell? ⟨w.heap.size, 24, none⟩ = some (.slice ua ul uc) := row_cell hr5 c24
            go_wp2_with fail
            refine (K6.out _ HB5.out).mono ?_
            rintro e w6 ⟨⟨b6, rfl, i6⟩, hB⟩
            have H6 : Hid (b6 = true ↔ M6) := i6
            have HB6 : Hid (Below w.heap.size w w6) := bel2 HB5.out hB
            have hr6 : w6.heap[w.heap.size]? = some (.cells cs 33 (0, 0)) := row_below hB hr5
            clear hB hr5 K6 i6 HB5
            clear g24
            cases b6 with
            | false =>
              go_wp2_with fail
              exact HQ.out _ _ ⟨fun h => (by cases h), fun h => H6.out.2 h.2.2.2.2.2⟩ HB6.out
            | true =>
              go_wp2_with fail
              exact HQ.out _ _ ⟨fun _ => ⟨(by first | rfl | trivial), H2.out.1 (by first | rfl | trivial), H3.out.1 (by first | rfl | trivial), H4.out.1 (by first | rfl | trivial), H5.out.1 (by first | rfl | trivial), H6.out.1 (by first | rfl | trivial)⟩, fun _ => rfl⟩ HB6.out
end Go.Proofs.YthphgkaifnacbaaGreat
