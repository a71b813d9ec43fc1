/- The general Step; Extend and Build; which states can be: put together from UL UM UN UO WA WB WC SW WD WE WF XP. -/
import Derived.Test.YtakaglfeeipeiaaGreatUK
import Derived.Test.YtakaglfeeipeiaaGreatSQ
namespace Go.Proofs.YtakaglfeeipeiaaGreat
open Go.ChangeShapes Go.WideShapes Go.ChangeAt Go.RowKit
/-- What an event of kind 1 makes. -/
def ch1 (s : Sta) (x : Ev) : Sta := { s with count := wrap64 (s.count + 1), time := x.t, status := 1, fresh := true, typ := x.s, inp := x.v, dl := x.d, pf := x.f, pc := x.c, pm := x.m }
/-- What an event of kind 2 makes. -/
def ch2 (s : Sta) (x : Ev) : Sta := { s with count := wrap64 (s.count + 1), time := x.t, ts := 1, ta := x.n, td := x.d, te := 0, tn := 0 }
/-- What an event of kind 3 makes. -/
def ch3 (s : Sta) (x : Ev) : Sta := { s with count := wrap64 (s.count + 1), time := x.t, ts := 2, td := x.d, te := wrap64 (s.count + 1), tn := wrap64 (s.count + 1), fresh := false }
/-- What an event of kind 4 makes. -/
def ch4 (s : Sta) (x : Ev) : Sta := { s with count := wrap64 (s.count + 1), time := x.t, ts := 0, ta := 0, td := 0, te := 0, tn := 0 }
/-- What an event of kind 5 makes. -/
def ch5 (s : Sta) (x : Ev) : Sta := { s with count := wrap64 (s.count + 1), time := x.t, ts := 0, ta := 0, td := 0, te := 0, tn := 0, fr := x.n }
/-- What an event of kind 7 makes. -/
def ch7 (s : Sta) (x : Ev) : Sta := { s with count := wrap64 (s.count + 1), time := x.t, sig := wrap64 (s.sig + 1), fresh := true }
/-- What an event of kind 8 makes. -/
def ch8 (s : Sta) (x : Ev) : Sta := { s with count := wrap64 (s.count + 1), time := x.t, cancel := true, fresh := true }
/-- What an event of kind 9 makes. -/
def ch9 (s : Sta) (x : Ev) : Sta := { s with count := wrap64 (s.count + 1), time := x.t, tm := insL (fun d => gtS d.s x.s) s.tm ⟨x.s, x.d⟩ }
/-- What an event of kind 10 makes. -/
def ch10 (s : Sta) (x : Ev) : Sta := { s with count := wrap64 (s.count + 1), time := x.t, tm := delL s.tm (tmAt s x.s).toNat, fresh := true }
/-- What an event of kind 11 makes. -/
def ch11 (s : Sta) (x : Ev) : Sta := { s with count := wrap64 (s.count + 1), time := x.t, tm := delL s.tm (tmAt s x.s).toNat }
/-- What an event of kind 12 makes. -/
def ch12 (s : Sta) (x : Ev) : Sta := { s with count := wrap64 (s.count + 1), time := x.t, up := insL (fun d => gtS d.s x.s) s.up ⟨x.s, x.v, 1, zE⟩ }
/-- What an event of kind 13 makes. -/
def ch13 (s : Sta) (x : Ev) : Sta := { s with count := wrap64 (s.count + 1), time := x.t, up := s.up.modify (waAt s x.s).toNat (fun u => { u with g := 2, o := x.v }) }
/-- What an event of kind 14 makes. -/
def ch14 (s : Sta) (x : Ev) : Sta := { s with count := wrap64 (s.count + 1), time := x.t }
/-- What an event of kind 15 makes. -/
def ch15 (s : Sta) (x : Ev) : Sta := { s with count := wrap64 (s.count + 1), time := x.t, ts := 0, ta := 0, td := 0, te := 0, tn := 0, tm := [], status := 2, res := x.v }
/-- What an event of kind 16 makes. -/
def ch16 (s : Sta) (x : Ev) : Sta := { s with count := wrap64 (s.count + 1), time := x.t, ts := 0, ta := 0, td := 0, te := 0, tn := 0, tm := [], status := 3, rea := x.s }
/-- What an event of kind 17 makes. -/
def ch17 (s : Sta) (x : Ev) : Sta := { s with count := wrap64 (s.count + 1), time := x.t, ts := 0, ta := 0, td := 0, te := 0, tn := 0, tm := [], status := 4 }
/-- What an event of kind 18 makes. -/
def ch18 (s : Sta) (x : Ev) : Sta := { s with count := wrap64 (s.count + 1), time := x.t, ts := 0, ta := 0, td := 0, te := 0, tn := 0, tm := [], status := 5, rea := x.s }
/-- What an event of kind 19 makes. -/
def ch19 (s : Sta) (x : Ev) : Sta := { s with count := wrap64 (s.count + 1), time := x.t, ts := 0, ta := 0, td := 0, te := 0, tn := 0, tm := [], status := 6 }
/-- What an event makes of a state. -/
def chg (s : Sta) (x : Ev) : Sta :=
  if x.k = 1 then ch1 s x else if x.k = 2 then ch2 s x else if x.k = 3 then ch3 s x else if x.k = 4 ∨ x.k = 5 ∨ x.k = 6 then (if 0 < x.n then ch5 s x else ch4 s x) else if x.k = 7 then ch7 s x else if x.k = 8 then ch8 s x
  else if x.k = 9 then ch9 s x else if x.k = 10 then ch10 s x else if x.k = 11 then ch11 s x else if x.k = 12 then ch12 s x else if x.k = 13 then ch13 s x else if x.k = 15 then ch15 s x else if x.k = 16 then ch16 s x
  else if x.k = 17 then ch17 s x else if x.k = 18 then ch18 s x else if x.k = 19 then ch19 s x else ch14 s x
theorem chg_from (s : Sta) (x : Ev) (h : x.k = 4 ∨ x.k = 5 ∨ x.k = 6) : chg s x = if 0 < x.n then ch5 s x else ch4 s x := by
  unfold chg
  rw [if_neg (by omega), if_neg (by omega), if_neg (by omega), if_pos h]
theorem chg_1 (s : Sta) (x : Ev) (h : x.k = 1) : chg s x = ch1 s x := by simp [chg, h]
theorem chg_2 (s : Sta) (x : Ev) (h : x.k = 2) : chg s x = ch2 s x := by simp [chg, h]
theorem chg_3 (s : Sta) (x : Ev) (h : x.k = 3) : chg s x = ch3 s x := by simp [chg, h]
theorem chg_7 (s : Sta) (x : Ev) (h : x.k = 7) : chg s x = ch7 s x := by simp [chg, h]
theorem chg_8 (s : Sta) (x : Ev) (h : x.k = 8) : chg s x = ch8 s x := by simp [chg, h]
theorem chg_9 (s : Sta) (x : Ev) (h : x.k = 9) : chg s x = ch9 s x := by simp [chg, h]
theorem chg_10 (s : Sta) (x : Ev) (h : x.k = 10) : chg s x = ch10 s x := by simp [chg, h]
theorem chg_11 (s : Sta) (x : Ev) (h : x.k = 11) : chg s x = ch11 s x := by simp [chg, h]
theorem chg_12 (s : Sta) (x : Ev) (h : x.k = 12) : chg s x = ch12 s x := by simp [chg, h]
theorem chg_13 (s : Sta) (x : Ev) (h : x.k = 13) : chg s x = ch13 s x := by simp [chg, h]
theorem chg_14 (s : Sta) (x : Ev) (h : x.k = 14) : chg s x = ch14 s x := by simp [chg, h]
theorem chg_15 (s : Sta) (x : Ev) (h : x.k = 15) : chg s x = ch15 s x := by simp [chg, h]
theorem chg_16 (s : Sta) (x : Ev) (h : x.k = 16) : chg s x = ch16 s x := by simp [chg, h]
theorem chg_17 (s : Sta) (x : Ev) (h : x.k = 17) : chg s x = ch17 s x := by simp [chg, h]
theorem chg_18 (s : Sta) (x : Ev) (h : x.k = 18) : chg s x = ch18 s x := by simp [chg, h]
theorem chg_19 (s : Sta) (x : Ev) (h : x.k = 19) : chg s x = ch19 s x := by simp [chg, h]
theorem ig1 {R R' : Value → Tv → Prop} {cs : Array Value} {s : Sta} (x : Ev) {k0 x0 b0 : Int} {s0 : ByteArray} {a0 : Option Addr} {m0 n0 : Nat} (hv : R' (.agg #[.int .i64 k0, .int .i64 x0, .int .u64 b0, .string s0, .slice a0 m0 n0]) x.v) (h : Ig R cs s) (hR : ∀ v t, R v t → R' v t) : Ig R' (puts cs [(2, .int .i64 (wrap64 (s.count + 1))), (3, .int .i64 x.t), (1, .int .i64 1), (21, .bool true), (7, .string x.s), (8, .int .i64 k0), (9, .int .i64 x0), (10, .int .u64 b0), (11, .string s0), (12, .slice a0 m0 n0), (4, .int .i64 x.d), (13, .int .i64 x.f), (14, .int .u64 (x.c : Int)), (15, .int .i64 x.m)]) (ch1 s x) :=
  { size := by rw [puts_size]; exact h.size, c0 := (puts_ne (by simp)).trans h.c0, c1 := by simp [puts, ch1, h.size], c2 := by simp [puts, ch1, h.size], c3 := by simp [puts, ch1, h.size], c4 := by simp [puts, ch1, h.size], c5 := (puts_ne (by simp)).trans h.c5, c6 := (puts_ne (by simp)).trans h.c6, c7 := by simp [puts, ch1, h.size], c13 := by simp [puts, ch1, h.size], c14 := by simp [puts, ch1, h.size], c15 := by simp [puts, ch1, h.size], c16 := (puts_ne (by simp)).trans h.c16, c17 := (puts_ne (by simp)).trans h.c17, c18 := (puts_ne (by simp)).trans h.c18, c19 := (puts_ne (by simp)).trans h.c19, c20 := (puts_ne (by simp)).trans h.c20, c21 := by simp [puts, ch1, h.size], c22 := (puts_ne (by simp)).trans h.c22, c30 := (puts_ne (by simp)).trans h.c30, inp := ⟨k0, x0, b0, s0, a0, m0, n0, by simp [puts, h.size], by simp [puts, h.size], by simp [puts, h.size], by simp [puts, h.size], by simp [puts, h.size], hv⟩, res := (h.res.map fun v => hR v _).other fun q h1 h2 => puts_ne (by simp; omega) }
theorem ig2 {R R' : Value → Tv → Prop} {cs : Array Value} {s : Sta} (x : Ev) (h : Ig R cs s) (hR : ∀ v t, R v t → R' v t) : Ig R' (puts cs [(2, .int .i64 (wrap64 (s.count + 1))), (3, .int .i64 x.t), (16, .int .i64 1), (17, .int .i64 x.n), (18, .int .i64 x.d), (19, .int .i64 0), (20, .int .i64 0)]) (ch2 s x) :=
  { size := by rw [puts_size]; exact h.size, c0 := (puts_ne (by simp)).trans h.c0, c1 := (puts_ne (by simp)).trans h.c1, c2 := by simp [puts, ch2, h.size], c3 := by simp [puts, ch2, h.size], c4 := (puts_ne (by simp)).trans h.c4, c5 := (puts_ne (by simp)).trans h.c5, c6 := (puts_ne (by simp)).trans h.c6, c7 := (puts_ne (by simp)).trans h.c7, c13 := (puts_ne (by simp)).trans h.c13, c14 := (puts_ne (by simp)).trans h.c14, c15 := (puts_ne (by simp)).trans h.c15, c16 := by simp [puts, ch2, h.size], c17 := by simp [puts, ch2, h.size], c18 := by simp [puts, ch2, h.size], c19 := by simp [puts, ch2, h.size], c20 := by simp [puts, ch2, h.size], c21 := (puts_ne (by simp)).trans h.c21, c22 := (puts_ne (by simp)).trans h.c22, c30 := (puts_ne (by simp)).trans h.c30, inp := (h.inp.map fun v => hR v _).other fun q h1 h2 => puts_ne (by simp; omega), res := (h.res.map fun v => hR v _).other fun q h1 h2 => puts_ne (by simp; omega) }
theorem ig3 {R R' : Value → Tv → Prop} {cs : Array Value} {s : Sta} (x : Ev) (h : Ig R cs s) (hR : ∀ v t, R v t → R' v t) : Ig R' (puts cs [(2, .int .i64 (wrap64 (s.count + 1))), (3, .int .i64 x.t), (16, .int .i64 2), (17, .int .i64 s.ta), (18, .int .i64 x.d), (19, .int .i64 (wrap64 (s.count + 1))), (20, .int .i64 (wrap64 (s.count + 1))), (21, .bool false)]) (ch3 s x) :=
  { size := by rw [puts_size]; exact h.size, c0 := (puts_ne (by simp)).trans h.c0, c1 := (puts_ne (by simp)).trans h.c1, c2 := by simp [puts, ch3, h.size], c3 := by simp [puts, ch3, h.size], c4 := (puts_ne (by simp)).trans h.c4, c5 := (puts_ne (by simp)).trans h.c5, c6 := (puts_ne (by simp)).trans h.c6, c7 := (puts_ne (by simp)).trans h.c7, c13 := (puts_ne (by simp)).trans h.c13, c14 := (puts_ne (by simp)).trans h.c14, c15 := (puts_ne (by simp)).trans h.c15, c16 := by simp [puts, ch3, h.size], c17 := by simp [puts, ch3, h.size], c18 := by simp [puts, ch3, h.size], c19 := by simp [puts, ch3, h.size], c20 := by simp [puts, ch3, h.size], c21 := by simp [puts, ch3, h.size], c22 := (puts_ne (by simp)).trans h.c22, c30 := (puts_ne (by simp)).trans h.c30, inp := (h.inp.map fun v => hR v _).other fun q h1 h2 => puts_ne (by simp; omega), res := (h.res.map fun v => hR v _).other fun q h1 h2 => puts_ne (by simp; omega) }
theorem ig4 {R R' : Value → Tv → Prop} {cs : Array Value} {s : Sta} (x : Ev) (h : Ig R cs s) (hR : ∀ v t, R v t → R' v t) : Ig R' (puts cs [(2, .int .i64 (wrap64 (s.count + 1))), (3, .int .i64 x.t), (16, .int .i64 0), (17, .int .i64 0), (18, .int .i64 0), (19, .int .i64 0), (20, .int .i64 0)]) (ch4 s x) :=
  { size := by rw [puts_size]; exact h.size, c0 := (puts_ne (by simp)).trans h.c0, c1 := (puts_ne (by simp)).trans h.c1, c2 := by simp [puts, ch4, h.size], c3 := by simp [puts, ch4, h.size], c4 := (puts_ne (by simp)).trans h.c4, c5 := (puts_ne (by simp)).trans h.c5, c6 := (puts_ne (by simp)).trans h.c6, c7 := (puts_ne (by simp)).trans h.c7, c13 := (puts_ne (by simp)).trans h.c13, c14 := (puts_ne (by simp)).trans h.c14, c15 := (puts_ne (by simp)).trans h.c15, c16 := by simp [puts, ch4, h.size], c17 := by simp [puts, ch4, h.size], c18 := by simp [puts, ch4, h.size], c19 := by simp [puts, ch4, h.size], c20 := by simp [puts, ch4, h.size], c21 := (puts_ne (by simp)).trans h.c21, c22 := (puts_ne (by simp)).trans h.c22, c30 := (puts_ne (by simp)).trans h.c30, inp := (h.inp.map fun v => hR v _).other fun q h1 h2 => puts_ne (by simp; omega), res := (h.res.map fun v => hR v _).other fun q h1 h2 => puts_ne (by simp; omega) }
theorem ig5 {R R' : Value → Tv → Prop} {cs : Array Value} {s : Sta} (x : Ev) (h : Ig R cs s) (hR : ∀ v t, R v t → R' v t) : Ig R' (puts cs [(2, .int .i64 (wrap64 (s.count + 1))), (3, .int .i64 x.t), (16, .int .i64 0), (17, .int .i64 0), (18, .int .i64 0), (19, .int .i64 0), (20, .int .i64 0), (5, .int .i64 x.n)]) (ch5 s x) :=
  { size := by rw [puts_size]; exact h.size, c0 := (puts_ne (by simp)).trans h.c0, c1 := (puts_ne (by simp)).trans h.c1, c2 := by simp [puts, ch5, h.size], c3 := by simp [puts, ch5, h.size], c4 := (puts_ne (by simp)).trans h.c4, c5 := by simp [puts, ch5, h.size], c6 := (puts_ne (by simp)).trans h.c6, c7 := (puts_ne (by simp)).trans h.c7, c13 := (puts_ne (by simp)).trans h.c13, c14 := (puts_ne (by simp)).trans h.c14, c15 := (puts_ne (by simp)).trans h.c15, c16 := by simp [puts, ch5, h.size], c17 := by simp [puts, ch5, h.size], c18 := by simp [puts, ch5, h.size], c19 := by simp [puts, ch5, h.size], c20 := by simp [puts, ch5, h.size], c21 := (puts_ne (by simp)).trans h.c21, c22 := (puts_ne (by simp)).trans h.c22, c30 := (puts_ne (by simp)).trans h.c30, inp := (h.inp.map fun v => hR v _).other fun q h1 h2 => puts_ne (by simp; omega), res := (h.res.map fun v => hR v _).other fun q h1 h2 => puts_ne (by simp; omega) }
theorem ig7 {R R' : Value → Tv → Prop} {cs : Array Value} {s : Sta} (x : Ev) (h : Ig R cs s) (hR : ∀ v t, R v t → R' v t) : Ig R' (puts cs [(2, .int .i64 (wrap64 (s.count + 1))), (3, .int .i64 x.t), (6, .int .i64 (wrap64 (s.sig + 1))), (21, .bool true)]) (ch7 s x) :=
  { size := by rw [puts_size]; exact h.size, c0 := (puts_ne (by simp)).trans h.c0, c1 := (puts_ne (by simp)).trans h.c1, c2 := by simp [puts, ch7, h.size], c3 := by simp [puts, ch7, h.size], c4 := (puts_ne (by simp)).trans h.c4, c5 := (puts_ne (by simp)).trans h.c5, c6 := by simp [puts, ch7, h.size], c7 := (puts_ne (by simp)).trans h.c7, c13 := (puts_ne (by simp)).trans h.c13, c14 := (puts_ne (by simp)).trans h.c14, c15 := (puts_ne (by simp)).trans h.c15, c16 := (puts_ne (by simp)).trans h.c16, c17 := (puts_ne (by simp)).trans h.c17, c18 := (puts_ne (by simp)).trans h.c18, c19 := (puts_ne (by simp)).trans h.c19, c20 := (puts_ne (by simp)).trans h.c20, c21 := by simp [puts, ch7, h.size], c22 := (puts_ne (by simp)).trans h.c22, c30 := (puts_ne (by simp)).trans h.c30, inp := (h.inp.map fun v => hR v _).other fun q h1 h2 => puts_ne (by simp; omega), res := (h.res.map fun v => hR v _).other fun q h1 h2 => puts_ne (by simp; omega) }
theorem ig8 {R R' : Value → Tv → Prop} {cs : Array Value} {s : Sta} (x : Ev) (h : Ig R cs s) (hR : ∀ v t, R v t → R' v t) : Ig R' (puts cs [(2, .int .i64 (wrap64 (s.count + 1))), (3, .int .i64 x.t), (22, .bool true), (21, .bool true)]) (ch8 s x) :=
  { size := by rw [puts_size]; exact h.size, c0 := (puts_ne (by simp)).trans h.c0, c1 := (puts_ne (by simp)).trans h.c1, c2 := by simp [puts, ch8, h.size], c3 := by simp [puts, ch8, h.size], c4 := (puts_ne (by simp)).trans h.c4, c5 := (puts_ne (by simp)).trans h.c5, c6 := (puts_ne (by simp)).trans h.c6, c7 := (puts_ne (by simp)).trans h.c7, c13 := (puts_ne (by simp)).trans h.c13, c14 := (puts_ne (by simp)).trans h.c14, c15 := (puts_ne (by simp)).trans h.c15, c16 := (puts_ne (by simp)).trans h.c16, c17 := (puts_ne (by simp)).trans h.c17, c18 := (puts_ne (by simp)).trans h.c18, c19 := (puts_ne (by simp)).trans h.c19, c20 := (puts_ne (by simp)).trans h.c20, c21 := by simp [puts, ch8, h.size], c22 := by simp [puts, ch8, h.size], c30 := (puts_ne (by simp)).trans h.c30, inp := (h.inp.map fun v => hR v _).other fun q h1 h2 => puts_ne (by simp; omega), res := (h.res.map fun v => hR v _).other fun q h1 h2 => puts_ne (by simp; omega) }
theorem ig9 {R R' : Value → Tv → Prop} {cs : Array Value} {s : Sta} (x : Ev) (v : Value) (h : Ig R cs s) (hR : ∀ v t, R v t → R' v t) : Ig R' (puts cs [(2, .int .i64 (wrap64 (s.count + 1))), (3, .int .i64 x.t), (23, v)]) (ch9 s x) :=
  { size := by rw [puts_size]; exact h.size, c0 := (puts_ne (by simp)).trans h.c0, c1 := (puts_ne (by simp)).trans h.c1, c2 := by simp [puts, ch9, h.size], c3 := by simp [puts, ch9, h.size], c4 := (puts_ne (by simp)).trans h.c4, c5 := (puts_ne (by simp)).trans h.c5, c6 := (puts_ne (by simp)).trans h.c6, c7 := (puts_ne (by simp)).trans h.c7, c13 := (puts_ne (by simp)).trans h.c13, c14 := (puts_ne (by simp)).trans h.c14, c15 := (puts_ne (by simp)).trans h.c15, c16 := (puts_ne (by simp)).trans h.c16, c17 := (puts_ne (by simp)).trans h.c17, c18 := (puts_ne (by simp)).trans h.c18, c19 := (puts_ne (by simp)).trans h.c19, c20 := (puts_ne (by simp)).trans h.c20, c21 := (puts_ne (by simp)).trans h.c21, c22 := (puts_ne (by simp)).trans h.c22, c30 := (puts_ne (by simp)).trans h.c30, inp := (h.inp.map fun v => hR v _).other fun q h1 h2 => puts_ne (by simp; omega), res := (h.res.map fun v => hR v _).other fun q h1 h2 => puts_ne (by simp; omega) }
theorem ig10 {R R' : Value → Tv → Prop} {cs : Array Value} {s : Sta} (x : Ev) (v : Value) (h : Ig R cs s) (hR : ∀ v t, R v t → R' v t) : Ig R' (puts cs [(2, .int .i64 (wrap64 (s.count + 1))), (3, .int .i64 x.t), (23, v), (21, .bool true)]) (ch10 s x) :=
  { size := by rw [puts_size]; exact h.size, c0 := (puts_ne (by simp)).trans h.c0, c1 := (puts_ne (by simp)).trans h.c1, c2 := by simp [puts, ch10, h.size], c3 := by simp [puts, ch10, h.size], c4 := (puts_ne (by simp)).trans h.c4, c5 := (puts_ne (by simp)).trans h.c5, c6 := (puts_ne (by simp)).trans h.c6, c7 := (puts_ne (by simp)).trans h.c7, c13 := (puts_ne (by simp)).trans h.c13, c14 := (puts_ne (by simp)).trans h.c14, c15 := (puts_ne (by simp)).trans h.c15, c16 := (puts_ne (by simp)).trans h.c16, c17 := (puts_ne (by simp)).trans h.c17, c18 := (puts_ne (by simp)).trans h.c18, c19 := (puts_ne (by simp)).trans h.c19, c20 := (puts_ne (by simp)).trans h.c20, c21 := by simp [puts, ch10, h.size], c22 := (puts_ne (by simp)).trans h.c22, c30 := (puts_ne (by simp)).trans h.c30, inp := (h.inp.map fun v => hR v _).other fun q h1 h2 => puts_ne (by simp; omega), res := (h.res.map fun v => hR v _).other fun q h1 h2 => puts_ne (by simp; omega) }
theorem ig11 {R R' : Value → Tv → Prop} {cs : Array Value} {s : Sta} (x : Ev) (v : Value) (h : Ig R cs s) (hR : ∀ v t, R v t → R' v t) : Ig R' (puts cs [(2, .int .i64 (wrap64 (s.count + 1))), (3, .int .i64 x.t), (23, v)]) (ch11 s x) :=
  { size := by rw [puts_size]; exact h.size, c0 := (puts_ne (by simp)).trans h.c0, c1 := (puts_ne (by simp)).trans h.c1, c2 := by simp [puts, ch11, h.size], c3 := by simp [puts, ch11, h.size], c4 := (puts_ne (by simp)).trans h.c4, c5 := (puts_ne (by simp)).trans h.c5, c6 := (puts_ne (by simp)).trans h.c6, c7 := (puts_ne (by simp)).trans h.c7, c13 := (puts_ne (by simp)).trans h.c13, c14 := (puts_ne (by simp)).trans h.c14, c15 := (puts_ne (by simp)).trans h.c15, c16 := (puts_ne (by simp)).trans h.c16, c17 := (puts_ne (by simp)).trans h.c17, c18 := (puts_ne (by simp)).trans h.c18, c19 := (puts_ne (by simp)).trans h.c19, c20 := (puts_ne (by simp)).trans h.c20, c21 := (puts_ne (by simp)).trans h.c21, c22 := (puts_ne (by simp)).trans h.c22, c30 := (puts_ne (by simp)).trans h.c30, inp := (h.inp.map fun v => hR v _).other fun q h1 h2 => puts_ne (by simp; omega), res := (h.res.map fun v => hR v _).other fun q h1 h2 => puts_ne (by simp; omega) }
theorem ig12 {R R' : Value → Tv → Prop} {cs : Array Value} {s : Sta} (x : Ev) (v : Value) (h : Ig R cs s) (hR : ∀ v t, R v t → R' v t) : Ig R' (puts cs [(2, .int .i64 (wrap64 (s.count + 1))), (3, .int .i64 x.t), (24, v)]) (ch12 s x) :=
  { size := by rw [puts_size]; exact h.size, c0 := (puts_ne (by simp)).trans h.c0, c1 := (puts_ne (by simp)).trans h.c1, c2 := by simp [puts, ch12, h.size], c3 := by simp [puts, ch12, h.size], c4 := (puts_ne (by simp)).trans h.c4, c5 := (puts_ne (by simp)).trans h.c5, c6 := (puts_ne (by simp)).trans h.c6, c7 := (puts_ne (by simp)).trans h.c7, c13 := (puts_ne (by simp)).trans h.c13, c14 := (puts_ne (by simp)).trans h.c14, c15 := (puts_ne (by simp)).trans h.c15, c16 := (puts_ne (by simp)).trans h.c16, c17 := (puts_ne (by simp)).trans h.c17, c18 := (puts_ne (by simp)).trans h.c18, c19 := (puts_ne (by simp)).trans h.c19, c20 := (puts_ne (by simp)).trans h.c20, c21 := (puts_ne (by simp)).trans h.c21, c22 := (puts_ne (by simp)).trans h.c22, c30 := (puts_ne (by simp)).trans h.c30, inp := (h.inp.map fun v => hR v _).other fun q h1 h2 => puts_ne (by simp; omega), res := (h.res.map fun v => hR v _).other fun q h1 h2 => puts_ne (by simp; omega) }
theorem ig13 {R R' : Value → Tv → Prop} {cs : Array Value} {s : Sta} (x : Ev) (h : Ig R cs s) (hR : ∀ v t, R v t → R' v t) : Ig R' (puts cs [(2, .int .i64 (wrap64 (s.count + 1))), (3, .int .i64 x.t)]) (ch13 s x) :=
  { size := by rw [puts_size]; exact h.size, c0 := (puts_ne (by simp)).trans h.c0, c1 := (puts_ne (by simp)).trans h.c1, c2 := by simp [puts, ch13, h.size], c3 := by simp [puts, ch13, h.size], c4 := (puts_ne (by simp)).trans h.c4, c5 := (puts_ne (by simp)).trans h.c5, c6 := (puts_ne (by simp)).trans h.c6, c7 := (puts_ne (by simp)).trans h.c7, c13 := (puts_ne (by simp)).trans h.c13, c14 := (puts_ne (by simp)).trans h.c14, c15 := (puts_ne (by simp)).trans h.c15, c16 := (puts_ne (by simp)).trans h.c16, c17 := (puts_ne (by simp)).trans h.c17, c18 := (puts_ne (by simp)).trans h.c18, c19 := (puts_ne (by simp)).trans h.c19, c20 := (puts_ne (by simp)).trans h.c20, c21 := (puts_ne (by simp)).trans h.c21, c22 := (puts_ne (by simp)).trans h.c22, c30 := (puts_ne (by simp)).trans h.c30, inp := (h.inp.map fun v => hR v _).other fun q h1 h2 => puts_ne (by simp; omega), res := (h.res.map fun v => hR v _).other fun q h1 h2 => puts_ne (by simp; omega) }
theorem ig14 {R R' : Value → Tv → Prop} {cs : Array Value} {s : Sta} (x : Ev) (h : Ig R cs s) (hR : ∀ v t, R v t → R' v t) : Ig R' (puts cs [(2, .int .i64 (wrap64 (s.count + 1))), (3, .int .i64 x.t)]) (ch14 s x) :=
  { size := by rw [puts_size]; exact h.size, c0 := (puts_ne (by simp)).trans h.c0, c1 := (puts_ne (by simp)).trans h.c1, c2 := by simp [puts, ch14, h.size], c3 := by simp [puts, ch14, h.size], c4 := (puts_ne (by simp)).trans h.c4, c5 := (puts_ne (by simp)).trans h.c5, c6 := (puts_ne (by simp)).trans h.c6, c7 := (puts_ne (by simp)).trans h.c7, c13 := (puts_ne (by simp)).trans h.c13, c14 := (puts_ne (by simp)).trans h.c14, c15 := (puts_ne (by simp)).trans h.c15, c16 := (puts_ne (by simp)).trans h.c16, c17 := (puts_ne (by simp)).trans h.c17, c18 := (puts_ne (by simp)).trans h.c18, c19 := (puts_ne (by simp)).trans h.c19, c20 := (puts_ne (by simp)).trans h.c20, c21 := (puts_ne (by simp)).trans h.c21, c22 := (puts_ne (by simp)).trans h.c22, c30 := (puts_ne (by simp)).trans h.c30, inp := (h.inp.map fun v => hR v _).other fun q h1 h2 => puts_ne (by simp; omega), res := (h.res.map fun v => hR v _).other fun q h1 h2 => puts_ne (by simp; omega) }
theorem ig15 {R R' : Value → Tv → Prop} {cs : Array Value} {s : Sta} (x : Ev) {k0 x0 b0 : Int} {s0 : ByteArray} {a0 : Option Addr} {m0 n0 : Nat} (hv : R' (.agg #[.int .i64 k0, .int .i64 x0, .int .u64 b0, .string s0, .slice a0 m0 n0]) x.v) (h : Ig R cs s) (hR : ∀ v t, R v t → R' v t) : Ig R' (puts cs [(2, .int .i64 (wrap64 (s.count + 1))), (3, .int .i64 x.t), (16, .int .i64 0), (17, .int .i64 0), (18, .int .i64 0), (19, .int .i64 0), (20, .int .i64 0), (23, .slice none 0 0), (1, .int .i64 2), (25, .int .i64 k0), (26, .int .i64 x0), (27, .int .u64 b0), (28, .string s0), (29, .slice a0 m0 n0)]) (ch15 s x) :=
  { size := by rw [puts_size]; exact h.size, c0 := (puts_ne (by simp)).trans h.c0, c1 := by simp [puts, ch15, h.size], c2 := by simp [puts, ch15, h.size], c3 := by simp [puts, ch15, h.size], c4 := (puts_ne (by simp)).trans h.c4, c5 := (puts_ne (by simp)).trans h.c5, c6 := (puts_ne (by simp)).trans h.c6, c7 := (puts_ne (by simp)).trans h.c7, c13 := (puts_ne (by simp)).trans h.c13, c14 := (puts_ne (by simp)).trans h.c14, c15 := (puts_ne (by simp)).trans h.c15, c16 := by simp [puts, ch15, h.size], c17 := by simp [puts, ch15, h.size], c18 := by simp [puts, ch15, h.size], c19 := by simp [puts, ch15, h.size], c20 := by simp [puts, ch15, h.size], c21 := (puts_ne (by simp)).trans h.c21, c22 := (puts_ne (by simp)).trans h.c22, c30 := (puts_ne (by simp)).trans h.c30, inp := (h.inp.map fun v => hR v _).other fun q h1 h2 => puts_ne (by simp; omega), res := ⟨k0, x0, b0, s0, a0, m0, n0, by simp [puts, h.size], by simp [puts, h.size], by simp [puts, h.size], by simp [puts, h.size], by simp [puts, h.size], hv⟩ }
theorem ig16 {R R' : Value → Tv → Prop} {cs : Array Value} {s : Sta} (x : Ev) (h : Ig R cs s) (hR : ∀ v t, R v t → R' v t) : Ig R' (puts cs [(2, .int .i64 (wrap64 (s.count + 1))), (3, .int .i64 x.t), (16, .int .i64 0), (17, .int .i64 0), (18, .int .i64 0), (19, .int .i64 0), (20, .int .i64 0), (23, .slice none 0 0), (1, .int .i64 3), (30, .string x.s)]) (ch16 s x) :=
  { size := by rw [puts_size]; exact h.size, c0 := (puts_ne (by simp)).trans h.c0, c1 := by simp [puts, ch16, h.size], c2 := by simp [puts, ch16, h.size], c3 := by simp [puts, ch16, h.size], c4 := (puts_ne (by simp)).trans h.c4, c5 := (puts_ne (by simp)).trans h.c5, c6 := (puts_ne (by simp)).trans h.c6, c7 := (puts_ne (by simp)).trans h.c7, c13 := (puts_ne (by simp)).trans h.c13, c14 := (puts_ne (by simp)).trans h.c14, c15 := (puts_ne (by simp)).trans h.c15, c16 := by simp [puts, ch16, h.size], c17 := by simp [puts, ch16, h.size], c18 := by simp [puts, ch16, h.size], c19 := by simp [puts, ch16, h.size], c20 := by simp [puts, ch16, h.size], c21 := (puts_ne (by simp)).trans h.c21, c22 := (puts_ne (by simp)).trans h.c22, c30 := by simp [puts, ch16, h.size], inp := (h.inp.map fun v => hR v _).other fun q h1 h2 => puts_ne (by simp; omega), res := (h.res.map fun v => hR v _).other fun q h1 h2 => puts_ne (by simp; omega) }
theorem ig17 {R R' : Value → Tv → Prop} {cs : Array Value} {s : Sta} (x : Ev) (h : Ig R cs s) (hR : ∀ v t, R v t → R' v t) : Ig R' (puts cs [(2, .int .i64 (wrap64 (s.count + 1))), (3, .int .i64 x.t), (16, .int .i64 0), (17, .int .i64 0), (18, .int .i64 0), (19, .int .i64 0), (20, .int .i64 0), (23, .slice none 0 0), (1, .int .i64 4)]) (ch17 s x) :=
  { size := by rw [puts_size]; exact h.size, c0 := (puts_ne (by simp)).trans h.c0, c1 := by simp [puts, ch17, h.size], c2 := by simp [puts, ch17, h.size], c3 := by simp [puts, ch17, h.size], c4 := (puts_ne (by simp)).trans h.c4, c5 := (puts_ne (by simp)).trans h.c5, c6 := (puts_ne (by simp)).trans h.c6, c7 := (puts_ne (by simp)).trans h.c7, c13 := (puts_ne (by simp)).trans h.c13, c14 := (puts_ne (by simp)).trans h.c14, c15 := (puts_ne (by simp)).trans h.c15, c16 := by simp [puts, ch17, h.size], c17 := by simp [puts, ch17, h.size], c18 := by simp [puts, ch17, h.size], c19 := by simp [puts, ch17, h.size], c20 := by simp [puts, ch17, h.size], c21 := (puts_ne (by simp)).trans h.c21, c22 := (puts_ne (by simp)).trans h.c22, c30 := (puts_ne (by simp)).trans h.c30, inp := (h.inp.map fun v => hR v _).other fun q h1 h2 => puts_ne (by simp; omega), res := (h.res.map fun v => hR v _).other fun q h1 h2 => puts_ne (by simp; omega) }
theorem ig18 {R R' : Value → Tv → Prop} {cs : Array Value} {s : Sta} (x : Ev) (h : Ig R cs s) (hR : ∀ v t, R v t → R' v t) : Ig R' (puts cs [(2, .int .i64 (wrap64 (s.count + 1))), (3, .int .i64 x.t), (16, .int .i64 0), (17, .int .i64 0), (18, .int .i64 0), (19, .int .i64 0), (20, .int .i64 0), (23, .slice none 0 0), (1, .int .i64 5), (30, .string x.s)]) (ch18 s x) :=
  { size := by rw [puts_size]; exact h.size, c0 := (puts_ne (by simp)).trans h.c0, c1 := by simp [puts, ch18, h.size], c2 := by simp [puts, ch18, h.size], c3 := by simp [puts, ch18, h.size], c4 := (puts_ne (by simp)).trans h.c4, c5 := (puts_ne (by simp)).trans h.c5, c6 := (puts_ne (by simp)).trans h.c6, c7 := (puts_ne (by simp)).trans h.c7, c13 := (puts_ne (by simp)).trans h.c13, c14 := (puts_ne (by simp)).trans h.c14, c15 := (puts_ne (by simp)).trans h.c15, c16 := by simp [puts, ch18, h.size], c17 := by simp [puts, ch18, h.size], c18 := by simp [puts, ch18, h.size], c19 := by simp [puts, ch18, h.size], c20 := by simp [puts, ch18, h.size], c21 := (puts_ne (by simp)).trans h.c21, c22 := (puts_ne (by simp)).trans h.c22, c30 := by simp [puts, ch18, h.size], inp := (h.inp.map fun v => hR v _).other fun q h1 h2 => puts_ne (by simp; omega), res := (h.res.map fun v => hR v _).other fun q h1 h2 => puts_ne (by simp; omega) }
theorem ig19 {R R' : Value → Tv → Prop} {cs : Array Value} {s : Sta} (x : Ev) (h : Ig R cs s) (hR : ∀ v t, R v t → R' v t) : Ig R' (puts cs [(2, .int .i64 (wrap64 (s.count + 1))), (3, .int .i64 x.t), (16, .int .i64 0), (17, .int .i64 0), (18, .int .i64 0), (19, .int .i64 0), (20, .int .i64 0), (23, .slice none 0 0), (1, .int .i64 6)]) (ch19 s x) :=
  { size := by rw [puts_size]; exact h.size, c0 := (puts_ne (by simp)).trans h.c0, c1 := by simp [puts, ch19, h.size], c2 := by simp [puts, ch19, h.size], c3 := by simp [puts, ch19, h.size], c4 := (puts_ne (by simp)).trans h.c4, c5 := (puts_ne (by simp)).trans h.c5, c6 := (puts_ne (by simp)).trans h.c6, c7 := (puts_ne (by simp)).trans h.c7, c13 := (puts_ne (by simp)).trans h.c13, c14 := (puts_ne (by simp)).trans h.c14, c15 := (puts_ne (by simp)).trans h.c15, c16 := by simp [puts, ch19, h.size], c17 := by simp [puts, ch19, h.size], c18 := by simp [puts, ch19, h.size], c19 := by simp [puts, ch19, h.size], c20 := by simp [puts, ch19, h.size], c21 := (puts_ne (by simp)).trans h.c21, c22 := (puts_ne (by simp)).trans h.c22, c30 := (puts_ne (by simp)).trans h.c30, inp := (h.inp.map fun v => hR v _).other fun q h1 h2 => puts_ne (by simp; omega), res := (h.res.map fun v => hR v _).other fun q h1 h2 => puts_ne (by simp; omega) }
end Go.Proofs.YtakaglfeeipeiaaGreat
namespace Go.Proofs.YtakaglfeeipeiaaGreat
open Go.ChangeShapes Go.WideShapes Go.ChangeAt Go.RowKit
theorem vk_to {lo B n : Nat} {w w' : World} {cs cs' : Array Value} (hkeep : ∀ b, b < w.heap.size → b ≠ B → Nb cs b → w'.heap[b]? = w.heap[b]?) (hnb : ∀ b, b < w.heap.size → Nb cs b → Nb cs' b) :
    ∀ v t, IsP (Vk (fun b => b ≠ B) lo w cs) w n v t → IsP (Vk (fun b => b ≠ B) lo w' cs') w' n v t := fun _ _ hv =>
  hv.keep (fun b hb hk => ⟨hk.1, free_keep (hkeep b hb hk.1 hk.2.2) hk.2.1, hnb b hb hk.2.2⟩) (fun b hb hk => hkeep b hb hk.1 hk.2.2)
theorem own_ne {w : World} {lo lo' k k' n n' : Nat} {t t' : TypeId} {u u' : Value} {xs xs' : List Value} (h : w.ownsRow lo t k u n xs) (h' : w.ownsRow lo' t' k' u' n' xs') (ht : t ≠ t') {b : Nat} (hb : u.ownBlock = some b) : u'.ownBlock ≠ some b := fun e => by
  obtain ⟨_, ⟨rfl, _⟩ | ⟨g, cap, cur, rfl, _, hg, _⟩⟩ := h
  · cases hb
  · obtain ⟨_, ⟨rfl, _⟩ | ⟨g', cap', cur', rfl, _, hg', _⟩⟩ := h'
    · cases e
    · cases hb
      cases e
      rw [hg] at hg'
      cases hg'
      exact ht rfl
section
variable {lo B n : Nat} {w w' : World} {cs cs' : Array Value} {s s' : Sta}
theorem og_same (h : Og (fun b => b ≠ B) lo w n cs s) (hg : w.heap[B]? = some (.cells cs 37 (0, 0))) (hk : KB B w w') (e23 : cs'[23]? = cs[23]?) (e24 : cs'[24]? = cs[24]?)
    (hi : (∀ v t, IsP (Vk (fun b => b ≠ B) lo w cs) w n v t → IsP (Vk (fun b => b ≠ B) lo w' cs') w' n v t) → Ig (IsP (Vk (fun b => b ≠ B) lo w' cs') w' n) cs' s') (ht : s'.tm = s.tm) (hu : s'.up = s.up) : Og (fun b => b ≠ B) lo w' n cs' s' := by
  have hR := vk_to (lo := lo) (B := B) (n := n) (w := w) (w' := w') (cs := cs) (cs' := cs') (fun b hb hne _ => ne_blk hk hb hne) (fun b _ hn v hv => hn v (by rw [e23, e24] at hv; exact hv))
  obtain ⟨a, c, t1, t2⟩ := h.tm
  obtain ⟨ua, uc, us, u1, u2, u3, u4⟩ := h.up
  refine ⟨hi hR, ⟨a, c, by rw [e23, ht]; exact t1, ?_⟩, ⟨ua, uc, us, by rw [e24, hu]; exact u1, ?_, by rw [hu]; exact u3, fun i r u hr hu' => (u4 i r u hr (by rw [hu] at hu'; exact hu')).map hR⟩⟩
  · rw [ht]
    exact owns_blk t2 (Nat.le_refl _) fun b hb => ne_blk hk (t2.lt b hb).2 (fun e => box_ne t2 (by decide) hg (by rw [← e]; exact hb))
  · rw [hu]
    exact owns_blk u2 (Nat.le_refl _) fun b hb => ne_blk hk (u2.lt b hb).2 (fun e => box_ne u2 (by decide) hg (by rw [← e]; exact hb))
theorem og_end (h : Og (fun b => b ≠ B) lo w n cs s) (hg : w.heap[B]? = some (.cells cs 37 (0, 0))) (hk : KB B w w') (e23 : cs'[23]? = some (.slice none 0 0)) (e24 : cs'[24]? = cs[24]?)
    (hi : (∀ v t, IsP (Vk (fun b => b ≠ B) lo w cs) w n v t → IsP (Vk (fun b => b ≠ B) lo w' cs') w' n v t) → Ig (IsP (Vk (fun b => b ≠ B) lo w' cs') w' n) cs' s') (ht : s'.tm = []) (hu : s'.up = s.up) : Og (fun b => b ≠ B) lo w' n cs' s' := by
  have hR := vk_to (lo := lo) (B := B) (n := n) (w := w) (w' := w') (cs := cs) (cs' := cs') (fun b hb hne _ => ne_blk hk hb hne) (fun b _ hn v hv => by
    rcases hv with hv | hv
    · rw [e23] at hv; cases hv; exact fun e => by cases e
    · rw [e24] at hv; exact hn v (.inr hv))
  obtain ⟨ua, uc, us, u1, u2, u3, u4⟩ := h.up
  refine ⟨hi hR, ⟨none, 0, by rw [e23, ht]; rfl, ?_⟩, ⟨ua, uc, us, by rw [e24, hu]; exact u1, ?_, by rw [hu]; exact u3, fun i r u hr hu' => (u4 i r u hr (by rw [hu] at hu'; exact hu')).map hR⟩⟩
  · rw [ht]
    exact World.ownsRow_nil _ _ _ _
  · rw [hu]
    exact owns_blk u2 (Nat.le_refl _) fun b hb => ne_blk hk (u2.lt b hb).2 (fun e => box_ne u2 (by decide) hg (by rw [← e]; exact hb))
theorem og_tm {u v : Value} (h : Og (fun b => b ≠ B) lo w n cs s) (hg : w.heap[B]? = some (.cells cs 37 (0, 0))) (c23 : cs[23]? = some u) (hl : Lw lo B 64 2 u (s'.tm.map Tm.cells) w v w') (e23 : cs'[23]? = some v) (e24 : cs'[24]? = cs[24]?)
    (hi : (∀ v t, IsP (Vk (fun b => b ≠ B) lo w cs) w n v t → IsP (Vk (fun b => b ≠ B) lo w' cs') w' n v t) → Ig (IsP (Vk (fun b => b ≠ B) lo w' cs') w' n) cs' s') (hu : s'.up = s.up) : Og (fun b => b ≠ B) lo w' n cs' s' := by
  have hR := vk_to (lo := lo) (B := B) (n := n) (w := w) (w' := w') (cs := cs) (cs' := cs') (fun b hb hne hn => hl.keep b hb hne (hn u (.inl c23))) (fun b hb hn v' hv => by
    rcases hv with hv | hv
    · rw [e23] at hv; cases hv
      rcases hl.blk with e | e
      · rw [e]; exact hn u (.inl c23)
      · intro e'
        have := e b e'
        omega
    · rw [e24] at hv; exact hn v' (.inr hv))
  obtain ⟨a, c, t1, t2⟩ := h.tm
  obtain ⟨ua, uc, us, u1, u2, u3, u4⟩ := h.up
  rw [c23] at t1
  cases t1
  have hO := hl.own
  rw [List.length_map] at hO
  obtain ⟨a', c', rfl⟩ := owns_shape hO
  refine ⟨hi hR, ⟨a', c', e23, hO⟩, ⟨ua, uc, us, by rw [e24, hu]; exact u1, ?_, by rw [hu]; exact u3, fun i r u hr hu' => (u4 i r u hr (by rw [hu] at hu'; exact hu')).map hR⟩⟩
  rw [hu]
  exact owns_blk u2 (Nat.le_refl _) fun b hb => hl.keep b (u2.lt b hb).2 (fun e => box_ne u2 (by decide) hg (by rw [← e]; exact hb)) (own_ne u2 t2 (by decide) hb)
theorem og_up {u v : Value} {rows : List (Array Value)} (h : Og (fun b => b ≠ B) lo w n cs s) (hg : w.heap[B]? = some (.cells cs 37 (0, 0))) (c24 : cs[24]? = some u) (hl : Lw lo B 67 12 u rows w v w') (hrl : rows.length = s'.up.length) (e23 : cs'[23]? = cs[23]?) (e24 : cs'[24]? = some v)
    (hi : (∀ v t, IsP (Vk (fun b => b ≠ B) lo w cs) w n v t → IsP (Vk (fun b => b ≠ B) lo w' cs') w' n v t) → Ig (IsP (Vk (fun b => b ≠ B) lo w' cs') w' n) cs' s') (ht : s'.tm = s.tm)
    (hr : (∀ v t, IsP (Vk (fun b => b ≠ B) lo w cs) w n v t → IsP (Vk (fun b => b ≠ B) lo w' cs') w' n v t) → ∀ (i : Nat) r u, rows[i]? = some r → s'.up[i]? = some u → IsU (IsP (Vk (fun b => b ≠ B) lo w' cs') w' n) r u) : Og (fun b => b ≠ B) lo w' n cs' s' := by
  have hR := vk_to (lo := lo) (B := B) (n := n) (w := w) (w' := w') (cs := cs) (cs' := cs') (fun b hb hne hn => hl.keep b hb hne (hn u (.inr c24))) (fun b hb hn v' hv => by
    rcases hv with hv | hv
    · rw [e23] at hv; exact hn v' (.inl hv)
    · rw [e24] at hv; cases hv
      rcases hl.blk with e | e
      · rw [e]; exact hn u (.inr c24)
      · intro e'
        have := e b e'
        omega)
  obtain ⟨a, c, t1, t2⟩ := h.tm
  obtain ⟨ua, uc, us, u1, u2, _, _⟩ := h.up
  rw [c24] at u1
  cases u1
  have hO := hl.own
  rw [hrl] at hO
  obtain ⟨a', c', rfl⟩ := owns_shape hO
  refine ⟨hi hR, ⟨a, c, by rw [e23, ht]; exact t1, ?_⟩, ⟨a', c', rows, e24, hO, hrl, hr hR⟩⟩
  rw [ht]
  exact owns_blk t2 (Nat.le_refl _) fun b hb => hl.keep b (t2.lt b hb).2 (fun e => box_ne t2 (by decide) hg (by rw [← e]; exact hb)) (own_ne t2 u2 (by decide) hb)
end
/-- What change answers. -/
def ChP (lo B n : Nat) (s' : Sta) (w : World) (e : Ending) (w' : World) : Prop :=
  e = .returned (.tuple #[]) ∧ ∃ cs', w'.heap[B]? = some (.cells cs' 37 (0, 0)) ∧ Og (fun b => b ≠ B) lo w' n cs' s' ∧ Below lo w w'
theorem chP1 (lo B n : Nat) (cs es : Array Value) (s : Sta) (x : Ev) (w : World) (hg : w.heap[B]? = some (.cells cs 37 (0, 0))) (h : Og (fun b => b ≠ B) lo w (n + 1) cs s) (he : IsEv (IsP (Vk (fun b => b ≠ B) lo w cs) w (n + 1)) es x) (hlo : lo ≤ B) (hk : x.k = 1) :
    Calls Tryz.prog 51 #[.pointer (some ⟨B, 0, none⟩), .agg es] w (ChP lo B (n + 1) (ch1 s x) w) := by
  have hBl : B < w.heap.size := (Array.getElem?_eq_some_iff.1 hg).1
  have hlw : lo ≤ w.heap.size := by omega
  have i := h.ig
  have e0 := he.c0
  rw [hk] at e0
  obtain ⟨k0, x0, b0, s0, a0, m0, n0, v5, v6, v7, v8, v9, hv⟩ := he.v
  obtain ⟨k1, x1, b1, s1, a1, l1, n1, d8, d9, d10, d11, d12, _⟩ := i.inp
  refine (chg1 B cs es s.count s.time x.t s.status s.dl x.d x.f s.pf x.m s.pm x.c s.pc s.fresh s.typ x.s k0 x0 b0 s0 a0 m0 n0 k1 x1 b1 s1 a1 l1 n1 w hg i.c1 i.c2 i.c3 i.c4 i.c7 d8 d9 d10 d11 d12 i.c13 i.c14 i.c15 i.c21 e0 he.c1 he.c3 he.c4 v5 v6 v7 v8 v9 he.c10 he.c11 he.c12).mono ?_
  rintro e w' ⟨rfl, hw⟩
  exact ⟨rfl, _, hw.row, og_same h hg hw.kb (puts_ne (by simp)) (puts_ne (by simp)) (fun hR => ig1 x (hR _ _ hv) h.ig hR) rfl rfl, hw.kb.below hlo hlw⟩
theorem chP7 (lo B n : Nat) (cs es : Array Value) (s : Sta) (x : Ev) (w : World) (hg : w.heap[B]? = some (.cells cs 37 (0, 0))) (h : Og (fun b => b ≠ B) lo w (n + 1) cs s) (he : IsEv (IsP (Vk (fun b => b ≠ B) lo w cs) w (n + 1)) es x) (hlo : lo ≤ B) (hk : x.k = 7) :
    Calls Tryz.prog 51 #[.pointer (some ⟨B, 0, none⟩), .agg es] w (ChP lo B (n + 1) (ch7 s x) w) := by
  have hBl : B < w.heap.size := (Array.getElem?_eq_some_iff.1 hg).1
  have hlw : lo ≤ w.heap.size := by omega
  have i := h.ig
  have e0 := he.c0
  rw [hk] at e0
  refine (chg7 B cs es s.count s.time x.t s.sig s.fresh w hg i.c2 i.c3 i.c6 i.c21 e0 he.c1).mono ?_
  rintro e w' ⟨rfl, hw⟩
  exact ⟨rfl, _, hw.row, og_same h hg hw.kb (puts_ne (by simp)) (puts_ne (by simp)) (fun hR => ig7 x h.ig hR) rfl rfl, hw.kb.below hlo hlw⟩
theorem chP8 (lo B n : Nat) (cs es : Array Value) (s : Sta) (x : Ev) (w : World) (hg : w.heap[B]? = some (.cells cs 37 (0, 0))) (h : Og (fun b => b ≠ B) lo w (n + 1) cs s) (he : IsEv (IsP (Vk (fun b => b ≠ B) lo w cs) w (n + 1)) es x) (hlo : lo ≤ B) (hk : x.k = 8) :
    Calls Tryz.prog 51 #[.pointer (some ⟨B, 0, none⟩), .agg es] w (ChP lo B (n + 1) (ch8 s x) w) := by
  have hBl : B < w.heap.size := (Array.getElem?_eq_some_iff.1 hg).1
  have hlw : lo ≤ w.heap.size := by omega
  have i := h.ig
  have e0 := he.c0
  rw [hk] at e0
  refine (chg8 B cs es s.count s.time x.t s.fresh s.cancel w hg i.c2 i.c3 i.c21 i.c22 e0 he.c1).mono ?_
  rintro e w' ⟨rfl, hw⟩
  exact ⟨rfl, _, hw.row, og_same h hg hw.kb (puts_ne (by simp)) (puts_ne (by simp)) (fun hR => ig8 x h.ig hR) rfl rfl, hw.kb.below hlo hlw⟩
theorem chP14 (lo B n : Nat) (cs es : Array Value) (s : Sta) (x : Ev) (w : World) (hg : w.heap[B]? = some (.cells cs 37 (0, 0))) (h : Og (fun b => b ≠ B) lo w (n + 1) cs s) (he : IsEv (IsP (Vk (fun b => b ≠ B) lo w cs) w (n + 1)) es x) (hlo : lo ≤ B) (hk : x.k = 14) :
    Calls Tryz.prog 51 #[.pointer (some ⟨B, 0, none⟩), .agg es] w (ChP lo B (n + 1) (ch14 s x) w) := by
  have hBl : B < w.heap.size := (Array.getElem?_eq_some_iff.1 hg).1
  have hlw : lo ≤ w.heap.size := by omega
  have i := h.ig
  have e0 := he.c0
  rw [hk] at e0
  refine (chg14 B cs es s.count s.time x.t w hg i.c2 i.c3 e0 he.c1).mono ?_
  rintro e w' ⟨rfl, hw⟩
  exact ⟨rfl, _, hw.row, og_same h hg hw.kb (puts_ne (by simp)) (puts_ne (by simp)) (fun hR => ig14 x h.ig hR) rfl rfl, hw.kb.below hlo hlw⟩
theorem chP2 (lo B n : Nat) (cs es : Array Value) (s : Sta) (x : Ev) (w : World) (hg : w.heap[B]? = some (.cells cs 37 (0, 0))) (h : Og (fun b => b ≠ B) lo w (n + 1) cs s) (he : IsEv (IsP (Vk (fun b => b ≠ B) lo w cs) w (n + 1)) es x) (hlo : lo ≤ B) (hk : x.k = 2) :
    Calls Tryz.prog 51 #[.pointer (some ⟨B, 0, none⟩), .agg es] w (ChP lo B (n + 1) (ch2 s x) w) := by
  have hBl : B < w.heap.size := (Array.getElem?_eq_some_iff.1 hg).1
  have hlw : lo ≤ w.heap.size := by omega
  have i := h.ig
  have e0 := he.c0
  rw [hk] at e0
  have o1 : ∀ q, q ≠ 2 → q ≠ 3 → (cs1 cs s.count x.t)[q]? = cs[q]? := fun q h2 h3 => puts_ne (by simp; omega)
  have d2 : (cs1 cs s.count x.t)[2]? = some (.int .i64 (wrap64 (s.count + 1))) := by simp [cs1, puts, i.size]
  have f := fun q v (h2 : q ≠ 2) (h3 : q ≠ 3) (hq : cs[q]? = some v) => (o1 q h2 h3).trans hq
  refine chgC2 B cs es s.count s.time x.t w (PuP B (cs1 cs s.count x.t) [(16, .int .i64 1), (17, .int .i64 x.n), (18, .int .i64 x.d), (19, .int .i64 0), (20, .int .i64 0)]) _ hg i.c2 i.c3 he.size e0 he.c1 (fun W hw => task2 B _ es _ _ _ _ _ x.n x.d W hw.row (f 16 _ (by decide) (by decide) i.c16) (f 17 _ (by decide) (by decide) i.c17) (f 18 _ (by decide) (by decide) i.c18) (f 19 _ (by decide) (by decide) i.c19) (f 20 _ (by decide) (by decide) i.c20) he.c2 he.c3 e0) (fun W e W' hw0 h1 => ?_)
  obtain ⟨rfl, hw⟩ := h1
  have hrow := hw.row
  rw [cs1, ← puts_app] at hrow
  exact ⟨rfl, rfl, _, hrow, og_same h hg (hw0.kb.trans hw.kb) (puts_ne (by simp)) (puts_ne (by simp)) (fun hR => ig2 x h.ig hR) rfl rfl, (hw0.kb.trans hw.kb).below hlo hlw⟩
theorem chP3 (lo B n : Nat) (cs es : Array Value) (s : Sta) (x : Ev) (w : World) (hg : w.heap[B]? = some (.cells cs 37 (0, 0))) (h : Og (fun b => b ≠ B) lo w (n + 1) cs s) (he : IsEv (IsP (Vk (fun b => b ≠ B) lo w cs) w (n + 1)) es x) (hlo : lo ≤ B) (hk : x.k = 3) :
    Calls Tryz.prog 51 #[.pointer (some ⟨B, 0, none⟩), .agg es] w (ChP lo B (n + 1) (ch3 s x) w) := by
  have hBl : B < w.heap.size := (Array.getElem?_eq_some_iff.1 hg).1
  have hlw : lo ≤ w.heap.size := by omega
  have i := h.ig
  have e0 := he.c0
  rw [hk] at e0
  have o1 : ∀ q, q ≠ 2 → q ≠ 3 → (cs1 cs s.count x.t)[q]? = cs[q]? := fun q h2 h3 => puts_ne (by simp; omega)
  have d2 : (cs1 cs s.count x.t)[2]? = some (.int .i64 (wrap64 (s.count + 1))) := by simp [cs1, puts, i.size]
  have f := fun q v (h2 : q ≠ 2) (h3 : q ≠ 3) (hq : cs[q]? = some v) => (o1 q h2 h3).trans hq
  refine chgC3 B cs es s.count s.time x.t w (PuP B (cs1 cs s.count x.t) [(16, .int .i64 2), (17, .int .i64 s.ta), (18, .int .i64 x.d), (19, .int .i64 (wrap64 (s.count + 1))), (20, .int .i64 (wrap64 (s.count + 1))), (21, .bool false)]) _ hg i.c2 i.c3 he.size e0 he.c1 (fun W hw => task3 B _ es _ _ _ _ _ x.d _ _ W hw.row (f 16 _ (by decide) (by decide) i.c16) (f 17 _ (by decide) (by decide) i.c17) (f 18 _ (by decide) (by decide) i.c18) (f 19 _ (by decide) (by decide) i.c19) (f 20 _ (by decide) (by decide) i.c20) d2 (f 21 _ (by decide) (by decide) i.c21) he.c3 e0) (fun W e W' hw0 h1 => ?_)
  obtain ⟨rfl, hw⟩ := h1
  have hrow := hw.row
  rw [cs1, ← puts_app] at hrow
  exact ⟨rfl, rfl, _, hrow, og_same h hg (hw0.kb.trans hw.kb) (puts_ne (by simp)) (puts_ne (by simp)) (fun hR => ig3 x h.ig hR) rfl rfl, (hw0.kb.trans hw.kb).below hlo hlw⟩
theorem chP4a (lo B n : Nat) (cs es : Array Value) (s : Sta) (x : Ev) (w : World) (hg : w.heap[B]? = some (.cells cs 37 (0, 0))) (h : Og (fun b => b ≠ B) lo w (n + 1) cs s) (he : IsEv (IsP (Vk (fun b => b ≠ B) lo w cs) w (n + 1)) es x) (hlo : lo ≤ B) (hk : x.k = 4) (hn : ¬ 0 < x.n) :
    Calls Tryz.prog 51 #[.pointer (some ⟨B, 0, none⟩), .agg es] w (ChP lo B (n + 1) (ch4 s x) w) := by
  have hBl : B < w.heap.size := (Array.getElem?_eq_some_iff.1 hg).1
  have hlw : lo ≤ w.heap.size := by omega
  have i := h.ig
  have e0 := he.c0
  rw [hk] at e0
  have o1 : ∀ q, q ≠ 2 → q ≠ 3 → (cs1 cs s.count x.t)[q]? = cs[q]? := fun q h2 h3 => puts_ne (by simp; omega)
  have d2 : (cs1 cs s.count x.t)[2]? = some (.int .i64 (wrap64 (s.count + 1))) := by simp [cs1, puts, i.size]
  have f := fun q v (h2 : q ≠ 2) (h3 : q ≠ 3) (hq : cs[q]? = some v) => (o1 q h2 h3).trans hq
  refine chgC4 B cs es s.count s.time x.t w (PuP B (cs1 cs s.count x.t) [(16, .int .i64 0), (17, .int .i64 0), (18, .int .i64 0), (19, .int .i64 0), (20, .int .i64 0)]) _ hg i.c2 i.c3 he.size e0 he.c1 (fun W hw => taskEnd B _ es 4 _ _ _ _ _ x.n W hw.row (by decide) (by decide) (f 16 _ (by decide) (by decide) i.c16) (f 17 _ (by decide) (by decide) i.c17) (f 18 _ (by decide) (by decide) i.c18) (f 19 _ (by decide) (by decide) i.c19) (f 20 _ (by decide) (by decide) i.c20) he.c2 hn e0) (fun W e W' hw0 h1 => ?_)
  obtain ⟨rfl, hw⟩ := h1
  have hrow := hw.row
  rw [cs1, ← puts_app] at hrow
  exact ⟨rfl, rfl, _, hrow, og_same h hg (hw0.kb.trans hw.kb) (puts_ne (by simp)) (puts_ne (by simp)) (fun hR => ig4 x h.ig hR) rfl rfl, (hw0.kb.trans hw.kb).below hlo hlw⟩
theorem chP4b (lo B n : Nat) (cs es : Array Value) (s : Sta) (x : Ev) (w : World) (hg : w.heap[B]? = some (.cells cs 37 (0, 0))) (h : Og (fun b => b ≠ B) lo w (n + 1) cs s) (he : IsEv (IsP (Vk (fun b => b ≠ B) lo w cs) w (n + 1)) es x) (hlo : lo ≤ B) (hk : x.k = 4) (hn : 0 < x.n) :
    Calls Tryz.prog 51 #[.pointer (some ⟨B, 0, none⟩), .agg es] w (ChP lo B (n + 1) (ch5 s x) w) := by
  have hBl : B < w.heap.size := (Array.getElem?_eq_some_iff.1 hg).1
  have hlw : lo ≤ w.heap.size := by omega
  have i := h.ig
  have e0 := he.c0
  rw [hk] at e0
  have o1 : ∀ q, q ≠ 2 → q ≠ 3 → (cs1 cs s.count x.t)[q]? = cs[q]? := fun q h2 h3 => puts_ne (by simp; omega)
  have d2 : (cs1 cs s.count x.t)[2]? = some (.int .i64 (wrap64 (s.count + 1))) := by simp [cs1, puts, i.size]
  have f := fun q v (h2 : q ≠ 2) (h3 : q ≠ 3) (hq : cs[q]? = some v) => (o1 q h2 h3).trans hq
  refine chgC4 B cs es s.count s.time x.t w (PuP B (cs1 cs s.count x.t) [(16, .int .i64 0), (17, .int .i64 0), (18, .int .i64 0), (19, .int .i64 0), (20, .int .i64 0), (5, .int .i64 x.n)]) _ hg i.c2 i.c3 he.size e0 he.c1 (fun W hw => taskFrom B _ es 4 _ _ _ _ _ x.n _ W hw.row (by decide) (by decide) (f 16 _ (by decide) (by decide) i.c16) (f 17 _ (by decide) (by decide) i.c17) (f 18 _ (by decide) (by decide) i.c18) (f 19 _ (by decide) (by decide) i.c19) (f 20 _ (by decide) (by decide) i.c20) (f 5 _ (by decide) (by decide) i.c5) he.c2 hn e0) (fun W e W' hw0 h1 => ?_)
  obtain ⟨rfl, hw⟩ := h1
  have hrow := hw.row
  rw [cs1, ← puts_app] at hrow
  exact ⟨rfl, rfl, _, hrow, og_same h hg (hw0.kb.trans hw.kb) (puts_ne (by simp)) (puts_ne (by simp)) (fun hR => ig5 x h.ig hR) rfl rfl, (hw0.kb.trans hw.kb).below hlo hlw⟩
theorem chP5a (lo B n : Nat) (cs es : Array Value) (s : Sta) (x : Ev) (w : World) (hg : w.heap[B]? = some (.cells cs 37 (0, 0))) (h : Og (fun b => b ≠ B) lo w (n + 1) cs s) (he : IsEv (IsP (Vk (fun b => b ≠ B) lo w cs) w (n + 1)) es x) (hlo : lo ≤ B) (hk : x.k = 5) (hn : ¬ 0 < x.n) :
    Calls Tryz.prog 51 #[.pointer (some ⟨B, 0, none⟩), .agg es] w (ChP lo B (n + 1) (ch4 s x) w) := by
  have hBl : B < w.heap.size := (Array.getElem?_eq_some_iff.1 hg).1
  have hlw : lo ≤ w.heap.size := by omega
  have i := h.ig
  have e0 := he.c0
  rw [hk] at e0
  have o1 : ∀ q, q ≠ 2 → q ≠ 3 → (cs1 cs s.count x.t)[q]? = cs[q]? := fun q h2 h3 => puts_ne (by simp; omega)
  have d2 : (cs1 cs s.count x.t)[2]? = some (.int .i64 (wrap64 (s.count + 1))) := by simp [cs1, puts, i.size]
  have f := fun q v (h2 : q ≠ 2) (h3 : q ≠ 3) (hq : cs[q]? = some v) => (o1 q h2 h3).trans hq
  refine chgC5 B cs es s.count s.time x.t w (PuP B (cs1 cs s.count x.t) [(16, .int .i64 0), (17, .int .i64 0), (18, .int .i64 0), (19, .int .i64 0), (20, .int .i64 0)]) _ hg i.c2 i.c3 he.size e0 he.c1 (fun W hw => taskEnd B _ es 5 _ _ _ _ _ x.n W hw.row (by decide) (by decide) (f 16 _ (by decide) (by decide) i.c16) (f 17 _ (by decide) (by decide) i.c17) (f 18 _ (by decide) (by decide) i.c18) (f 19 _ (by decide) (by decide) i.c19) (f 20 _ (by decide) (by decide) i.c20) he.c2 hn e0) (fun W e W' hw0 h1 => ?_)
  obtain ⟨rfl, hw⟩ := h1
  have hrow := hw.row
  rw [cs1, ← puts_app] at hrow
  exact ⟨rfl, rfl, _, hrow, og_same h hg (hw0.kb.trans hw.kb) (puts_ne (by simp)) (puts_ne (by simp)) (fun hR => ig4 x h.ig hR) rfl rfl, (hw0.kb.trans hw.kb).below hlo hlw⟩
theorem chP5b (lo B n : Nat) (cs es : Array Value) (s : Sta) (x : Ev) (w : World) (hg : w.heap[B]? = some (.cells cs 37 (0, 0))) (h : Og (fun b => b ≠ B) lo w (n + 1) cs s) (he : IsEv (IsP (Vk (fun b => b ≠ B) lo w cs) w (n + 1)) es x) (hlo : lo ≤ B) (hk : x.k = 5) (hn : 0 < x.n) :
    Calls Tryz.prog 51 #[.pointer (some ⟨B, 0, none⟩), .agg es] w (ChP lo B (n + 1) (ch5 s x) w) := by
  have hBl : B < w.heap.size := (Array.getElem?_eq_some_iff.1 hg).1
  have hlw : lo ≤ w.heap.size := by omega
  have i := h.ig
  have e0 := he.c0
  rw [hk] at e0
  have o1 : ∀ q, q ≠ 2 → q ≠ 3 → (cs1 cs s.count x.t)[q]? = cs[q]? := fun q h2 h3 => puts_ne (by simp; omega)
  have d2 : (cs1 cs s.count x.t)[2]? = some (.int .i64 (wrap64 (s.count + 1))) := by simp [cs1, puts, i.size]
  have f := fun q v (h2 : q ≠ 2) (h3 : q ≠ 3) (hq : cs[q]? = some v) => (o1 q h2 h3).trans hq
  refine chgC5 B cs es s.count s.time x.t w (PuP B (cs1 cs s.count x.t) [(16, .int .i64 0), (17, .int .i64 0), (18, .int .i64 0), (19, .int .i64 0), (20, .int .i64 0), (5, .int .i64 x.n)]) _ hg i.c2 i.c3 he.size e0 he.c1 (fun W hw => taskFrom B _ es 5 _ _ _ _ _ x.n _ W hw.row (by decide) (by decide) (f 16 _ (by decide) (by decide) i.c16) (f 17 _ (by decide) (by decide) i.c17) (f 18 _ (by decide) (by decide) i.c18) (f 19 _ (by decide) (by decide) i.c19) (f 20 _ (by decide) (by decide) i.c20) (f 5 _ (by decide) (by decide) i.c5) he.c2 hn e0) (fun W e W' hw0 h1 => ?_)
  obtain ⟨rfl, hw⟩ := h1
  have hrow := hw.row
  rw [cs1, ← puts_app] at hrow
  exact ⟨rfl, rfl, _, hrow, og_same h hg (hw0.kb.trans hw.kb) (puts_ne (by simp)) (puts_ne (by simp)) (fun hR => ig5 x h.ig hR) rfl rfl, (hw0.kb.trans hw.kb).below hlo hlw⟩
theorem chP6a (lo B n : Nat) (cs es : Array Value) (s : Sta) (x : Ev) (w : World) (hg : w.heap[B]? = some (.cells cs 37 (0, 0))) (h : Og (fun b => b ≠ B) lo w (n + 1) cs s) (he : IsEv (IsP (Vk (fun b => b ≠ B) lo w cs) w (n + 1)) es x) (hlo : lo ≤ B) (hk : x.k = 6) (hn : ¬ 0 < x.n) :
    Calls Tryz.prog 51 #[.pointer (some ⟨B, 0, none⟩), .agg es] w (ChP lo B (n + 1) (ch4 s x) w) := by
  have hBl : B < w.heap.size := (Array.getElem?_eq_some_iff.1 hg).1
  have hlw : lo ≤ w.heap.size := by omega
  have i := h.ig
  have e0 := he.c0
  rw [hk] at e0
  have o1 : ∀ q, q ≠ 2 → q ≠ 3 → (cs1 cs s.count x.t)[q]? = cs[q]? := fun q h2 h3 => puts_ne (by simp; omega)
  have d2 : (cs1 cs s.count x.t)[2]? = some (.int .i64 (wrap64 (s.count + 1))) := by simp [cs1, puts, i.size]
  have f := fun q v (h2 : q ≠ 2) (h3 : q ≠ 3) (hq : cs[q]? = some v) => (o1 q h2 h3).trans hq
  refine chgC6 B cs es s.count s.time x.t w (PuP B (cs1 cs s.count x.t) [(16, .int .i64 0), (17, .int .i64 0), (18, .int .i64 0), (19, .int .i64 0), (20, .int .i64 0)]) _ hg i.c2 i.c3 he.size e0 he.c1 (fun W hw => taskEnd B _ es 6 _ _ _ _ _ x.n W hw.row (by decide) (by decide) (f 16 _ (by decide) (by decide) i.c16) (f 17 _ (by decide) (by decide) i.c17) (f 18 _ (by decide) (by decide) i.c18) (f 19 _ (by decide) (by decide) i.c19) (f 20 _ (by decide) (by decide) i.c20) he.c2 hn e0) (fun W e W' hw0 h1 => ?_)
  obtain ⟨rfl, hw⟩ := h1
  have hrow := hw.row
  rw [cs1, ← puts_app] at hrow
  exact ⟨rfl, rfl, _, hrow, og_same h hg (hw0.kb.trans hw.kb) (puts_ne (by simp)) (puts_ne (by simp)) (fun hR => ig4 x h.ig hR) rfl rfl, (hw0.kb.trans hw.kb).below hlo hlw⟩
theorem chP6b (lo B n : Nat) (cs es : Array Value) (s : Sta) (x : Ev) (w : World) (hg : w.heap[B]? = some (.cells cs 37 (0, 0))) (h : Og (fun b => b ≠ B) lo w (n + 1) cs s) (he : IsEv (IsP (Vk (fun b => b ≠ B) lo w cs) w (n + 1)) es x) (hlo : lo ≤ B) (hk : x.k = 6) (hn : 0 < x.n) :
    Calls Tryz.prog 51 #[.pointer (some ⟨B, 0, none⟩), .agg es] w (ChP lo B (n + 1) (ch5 s x) w) := by
  have hBl : B < w.heap.size := (Array.getElem?_eq_some_iff.1 hg).1
  have hlw : lo ≤ w.heap.size := by omega
  have i := h.ig
  have e0 := he.c0
  rw [hk] at e0
  have o1 : ∀ q, q ≠ 2 → q ≠ 3 → (cs1 cs s.count x.t)[q]? = cs[q]? := fun q h2 h3 => puts_ne (by simp; omega)
  have d2 : (cs1 cs s.count x.t)[2]? = some (.int .i64 (wrap64 (s.count + 1))) := by simp [cs1, puts, i.size]
  have f := fun q v (h2 : q ≠ 2) (h3 : q ≠ 3) (hq : cs[q]? = some v) => (o1 q h2 h3).trans hq
  refine chgC6 B cs es s.count s.time x.t w (PuP B (cs1 cs s.count x.t) [(16, .int .i64 0), (17, .int .i64 0), (18, .int .i64 0), (19, .int .i64 0), (20, .int .i64 0), (5, .int .i64 x.n)]) _ hg i.c2 i.c3 he.size e0 he.c1 (fun W hw => taskFrom B _ es 6 _ _ _ _ _ x.n _ W hw.row (by decide) (by decide) (f 16 _ (by decide) (by decide) i.c16) (f 17 _ (by decide) (by decide) i.c17) (f 18 _ (by decide) (by decide) i.c18) (f 19 _ (by decide) (by decide) i.c19) (f 20 _ (by decide) (by decide) i.c20) (f 5 _ (by decide) (by decide) i.c5) he.c2 hn e0) (fun W e W' hw0 h1 => ?_)
  obtain ⟨rfl, hw⟩ := h1
  have hrow := hw.row
  rw [cs1, ← puts_app] at hrow
  exact ⟨rfl, rfl, _, hrow, og_same h hg (hw0.kb.trans hw.kb) (puts_ne (by simp)) (puts_ne (by simp)) (fun hR => ig5 x h.ig hR) rfl rfl, (hw0.kb.trans hw.kb).below hlo hlw⟩
theorem chP15 (lo B n : Nat) (cs es : Array Value) (s : Sta) (x : Ev) (w : World) (hg : w.heap[B]? = some (.cells cs 37 (0, 0))) (h : Og (fun b => b ≠ B) lo w (n + 1) cs s) (he : IsEv (IsP (Vk (fun b => b ≠ B) lo w cs) w (n + 1)) es x) (hlo : lo ≤ B) (hk : x.k = 15) :
    Calls Tryz.prog 51 #[.pointer (some ⟨B, 0, none⟩), .agg es] w (ChP lo B (n + 1) (ch15 s x) w) := by
  have hBl : B < w.heap.size := (Array.getElem?_eq_some_iff.1 hg).1
  have hlw : lo ≤ w.heap.size := by omega
  have i := h.ig
  have e0 := he.c0
  rw [hk] at e0
  obtain ⟨ta, tc, t1, _⟩ := h.tm
  obtain ⟨k0, x0, b0, s0, a0, m0, n0, v5, v6, v7, v8, v9, hv⟩ := he.v
  obtain ⟨k1, x1, b1, s1, a1, l1, n1, r5, r6, r7, r8, r9, _⟩ := i.res
  have o1 : ∀ q, q ≠ 2 → q ≠ 3 → (cs1 cs s.count x.t)[q]? = cs[q]? := fun q h2 h3 => puts_ne (by simp; omega)
  have d2 : (cs1 cs s.count x.t)[2]? = some (.int .i64 (wrap64 (s.count + 1))) := by simp [cs1, puts, i.size]
  have f := fun q v (h2 : q ≠ 2) (h3 : q ≠ 3) (hq : cs[q]? = some v) => (o1 q h2 h3).trans hq
  refine chgC15 B cs es s.count s.time x.t w (PuP B (cs1 cs s.count x.t) [(16, .int .i64 0), (17, .int .i64 0), (18, .int .i64 0), (19, .int .i64 0), (20, .int .i64 0), (23, .slice none 0 0), (1, .int .i64 2), (25, .int .i64 k0), (26, .int .i64 x0), (27, .int .u64 b0), (28, .string s0), (29, .slice a0 m0 n0)]) _ hg i.c2 i.c3 he.size e0 he.c1 (fun W hw => end15 B _ es _ _ _ _ _ _ _ _ _ k0 x0 b0 _ _ _ s0 _ a0 _ m0 n0 _ _ W hw.row (f 16 _ (by decide) (by decide) i.c16) (f 17 _ (by decide) (by decide) i.c17) (f 18 _ (by decide) (by decide) i.c18) (f 19 _ (by decide) (by decide) i.c19) (f 20 _ (by decide) (by decide) i.c20) (f 23 _ (by decide) (by decide) t1) (f 1 _ (by decide) (by decide) i.c1) (f 25 _ (by decide) (by decide) r5) (f 26 _ (by decide) (by decide) r6) (f 27 _ (by decide) (by decide) r7) (f 28 _ (by decide) (by decide) r8) (f 29 _ (by decide) (by decide) r9) v5 v6 v7 v8 v9 e0) (fun W e W' hw0 h1 => ?_)
  obtain ⟨rfl, hw⟩ := h1
  have hrow := hw.row
  rw [cs1, ← puts_app] at hrow
  exact ⟨rfl, rfl, _, hrow, og_end h hg (hw0.kb.trans hw.kb) (by simp [puts, i.size]) (puts_ne (by simp)) (fun hR => ig15 x (hR _ _ hv) h.ig hR) rfl rfl, (hw0.kb.trans hw.kb).below hlo hlw⟩
theorem chP16 (lo B n : Nat) (cs es : Array Value) (s : Sta) (x : Ev) (w : World) (hg : w.heap[B]? = some (.cells cs 37 (0, 0))) (h : Og (fun b => b ≠ B) lo w (n + 1) cs s) (he : IsEv (IsP (Vk (fun b => b ≠ B) lo w cs) w (n + 1)) es x) (hlo : lo ≤ B) (hk : x.k = 16) :
    Calls Tryz.prog 51 #[.pointer (some ⟨B, 0, none⟩), .agg es] w (ChP lo B (n + 1) (ch16 s x) w) := by
  have hBl : B < w.heap.size := (Array.getElem?_eq_some_iff.1 hg).1
  have hlw : lo ≤ w.heap.size := by omega
  have i := h.ig
  have e0 := he.c0
  rw [hk] at e0
  obtain ⟨ta, tc, t1, _⟩ := h.tm
  have o1 : ∀ q, q ≠ 2 → q ≠ 3 → (cs1 cs s.count x.t)[q]? = cs[q]? := fun q h2 h3 => puts_ne (by simp; omega)
  have d2 : (cs1 cs s.count x.t)[2]? = some (.int .i64 (wrap64 (s.count + 1))) := by simp [cs1, puts, i.size]
  have f := fun q v (h2 : q ≠ 2) (h3 : q ≠ 3) (hq : cs[q]? = some v) => (o1 q h2 h3).trans hq
  refine chgC16 B cs es s.count s.time x.t w (PuP B (cs1 cs s.count x.t) [(16, .int .i64 0), (17, .int .i64 0), (18, .int .i64 0), (19, .int .i64 0), (20, .int .i64 0), (23, .slice none 0 0), (1, .int .i64 3), (30, .string x.s)]) _ hg i.c2 i.c3 he.size e0 he.c1 (fun W hw => end16 B _ es _ _ _ _ _ _ _ _ _ _ x.s W hw.row (f 16 _ (by decide) (by decide) i.c16) (f 17 _ (by decide) (by decide) i.c17) (f 18 _ (by decide) (by decide) i.c18) (f 19 _ (by decide) (by decide) i.c19) (f 20 _ (by decide) (by decide) i.c20) (f 23 _ (by decide) (by decide) t1) (f 1 _ (by decide) (by decide) i.c1) (f 30 _ (by decide) (by decide) i.c30) he.c4 e0) (fun W e W' hw0 h1 => ?_)
  obtain ⟨rfl, hw⟩ := h1
  have hrow := hw.row
  rw [cs1, ← puts_app] at hrow
  exact ⟨rfl, rfl, _, hrow, og_end h hg (hw0.kb.trans hw.kb) (by simp [puts, i.size]) (puts_ne (by simp)) (fun hR => ig16 x h.ig hR) rfl rfl, (hw0.kb.trans hw.kb).below hlo hlw⟩
theorem chP18 (lo B n : Nat) (cs es : Array Value) (s : Sta) (x : Ev) (w : World) (hg : w.heap[B]? = some (.cells cs 37 (0, 0))) (h : Og (fun b => b ≠ B) lo w (n + 1) cs s) (he : IsEv (IsP (Vk (fun b => b ≠ B) lo w cs) w (n + 1)) es x) (hlo : lo ≤ B) (hk : x.k = 18) :
    Calls Tryz.prog 51 #[.pointer (some ⟨B, 0, none⟩), .agg es] w (ChP lo B (n + 1) (ch18 s x) w) := by
  have hBl : B < w.heap.size := (Array.getElem?_eq_some_iff.1 hg).1
  have hlw : lo ≤ w.heap.size := by omega
  have i := h.ig
  have e0 := he.c0
  rw [hk] at e0
  obtain ⟨ta, tc, t1, _⟩ := h.tm
  have o1 : ∀ q, q ≠ 2 → q ≠ 3 → (cs1 cs s.count x.t)[q]? = cs[q]? := fun q h2 h3 => puts_ne (by simp; omega)
  have d2 : (cs1 cs s.count x.t)[2]? = some (.int .i64 (wrap64 (s.count + 1))) := by simp [cs1, puts, i.size]
  have f := fun q v (h2 : q ≠ 2) (h3 : q ≠ 3) (hq : cs[q]? = some v) => (o1 q h2 h3).trans hq
  refine chgC18 B cs es s.count s.time x.t w (PuP B (cs1 cs s.count x.t) [(16, .int .i64 0), (17, .int .i64 0), (18, .int .i64 0), (19, .int .i64 0), (20, .int .i64 0), (23, .slice none 0 0), (1, .int .i64 5), (30, .string x.s)]) _ hg i.c2 i.c3 he.size e0 he.c1 (fun W hw => end18 B _ es _ _ _ _ _ _ _ _ _ _ x.s W hw.row (f 16 _ (by decide) (by decide) i.c16) (f 17 _ (by decide) (by decide) i.c17) (f 18 _ (by decide) (by decide) i.c18) (f 19 _ (by decide) (by decide) i.c19) (f 20 _ (by decide) (by decide) i.c20) (f 23 _ (by decide) (by decide) t1) (f 1 _ (by decide) (by decide) i.c1) (f 30 _ (by decide) (by decide) i.c30) he.c4 e0) (fun W e W' hw0 h1 => ?_)
  obtain ⟨rfl, hw⟩ := h1
  have hrow := hw.row
  rw [cs1, ← puts_app] at hrow
  exact ⟨rfl, rfl, _, hrow, og_end h hg (hw0.kb.trans hw.kb) (by simp [puts, i.size]) (puts_ne (by simp)) (fun hR => ig18 x h.ig hR) rfl rfl, (hw0.kb.trans hw.kb).below hlo hlw⟩
theorem chP17 (lo B n : Nat) (cs es : Array Value) (s : Sta) (x : Ev) (w : World) (hg : w.heap[B]? = some (.cells cs 37 (0, 0))) (h : Og (fun b => b ≠ B) lo w (n + 1) cs s) (he : IsEv (IsP (Vk (fun b => b ≠ B) lo w cs) w (n + 1)) es x) (hlo : lo ≤ B) (hk : x.k = 17) :
    Calls Tryz.prog 51 #[.pointer (some ⟨B, 0, none⟩), .agg es] w (ChP lo B (n + 1) (ch17 s x) w) := by
  have hBl : B < w.heap.size := (Array.getElem?_eq_some_iff.1 hg).1
  have hlw : lo ≤ w.heap.size := by omega
  have i := h.ig
  have e0 := he.c0
  rw [hk] at e0
  obtain ⟨ta, tc, t1, _⟩ := h.tm
  have o1 : ∀ q, q ≠ 2 → q ≠ 3 → (cs1 cs s.count x.t)[q]? = cs[q]? := fun q h2 h3 => puts_ne (by simp; omega)
  have d2 : (cs1 cs s.count x.t)[2]? = some (.int .i64 (wrap64 (s.count + 1))) := by simp [cs1, puts, i.size]
  have f := fun q v (h2 : q ≠ 2) (h3 : q ≠ 3) (hq : cs[q]? = some v) => (o1 q h2 h3).trans hq
  refine chgC17 B cs es s.count s.time x.t w (PuP B (cs1 cs s.count x.t) [(16, .int .i64 0), (17, .int .i64 0), (18, .int .i64 0), (19, .int .i64 0), (20, .int .i64 0), (23, .slice none 0 0), (1, .int .i64 4)]) _ hg i.c2 i.c3 he.size e0 he.c1 (fun W hw => end17 B _ es _ _ _ _ _ _ _ _ _ W hw.row (f 16 _ (by decide) (by decide) i.c16) (f 17 _ (by decide) (by decide) i.c17) (f 18 _ (by decide) (by decide) i.c18) (f 19 _ (by decide) (by decide) i.c19) (f 20 _ (by decide) (by decide) i.c20) (f 23 _ (by decide) (by decide) t1) (f 1 _ (by decide) (by decide) i.c1) e0) (fun W e W' hw0 h1 => ?_)
  obtain ⟨rfl, hw⟩ := h1
  have hrow := hw.row
  rw [cs1, ← puts_app] at hrow
  exact ⟨rfl, rfl, _, hrow, og_end h hg (hw0.kb.trans hw.kb) (by simp [puts, i.size]) (puts_ne (by simp)) (fun hR => ig17 x h.ig hR) rfl rfl, (hw0.kb.trans hw.kb).below hlo hlw⟩
theorem chP19 (lo B n : Nat) (cs es : Array Value) (s : Sta) (x : Ev) (w : World) (hg : w.heap[B]? = some (.cells cs 37 (0, 0))) (h : Og (fun b => b ≠ B) lo w (n + 1) cs s) (he : IsEv (IsP (Vk (fun b => b ≠ B) lo w cs) w (n + 1)) es x) (hlo : lo ≤ B) (hk : x.k = 19) :
    Calls Tryz.prog 51 #[.pointer (some ⟨B, 0, none⟩), .agg es] w (ChP lo B (n + 1) (ch19 s x) w) := by
  have hBl : B < w.heap.size := (Array.getElem?_eq_some_iff.1 hg).1
  have hlw : lo ≤ w.heap.size := by omega
  have i := h.ig
  have e0 := he.c0
  rw [hk] at e0
  obtain ⟨ta, tc, t1, _⟩ := h.tm
  have o1 : ∀ q, q ≠ 2 → q ≠ 3 → (cs1 cs s.count x.t)[q]? = cs[q]? := fun q h2 h3 => puts_ne (by simp; omega)
  have d2 : (cs1 cs s.count x.t)[2]? = some (.int .i64 (wrap64 (s.count + 1))) := by simp [cs1, puts, i.size]
  have f := fun q v (h2 : q ≠ 2) (h3 : q ≠ 3) (hq : cs[q]? = some v) => (o1 q h2 h3).trans hq
  refine chgC19 B cs es s.count s.time x.t w (PuP B (cs1 cs s.count x.t) [(16, .int .i64 0), (17, .int .i64 0), (18, .int .i64 0), (19, .int .i64 0), (20, .int .i64 0), (23, .slice none 0 0), (1, .int .i64 6)]) _ hg i.c2 i.c3 he.size e0 he.c1 (fun W hw => end19 B _ es _ _ _ _ _ _ _ _ _ W hw.row (f 16 _ (by decide) (by decide) i.c16) (f 17 _ (by decide) (by decide) i.c17) (f 18 _ (by decide) (by decide) i.c18) (f 19 _ (by decide) (by decide) i.c19) (f 20 _ (by decide) (by decide) i.c20) (f 23 _ (by decide) (by decide) t1) (f 1 _ (by decide) (by decide) i.c1) e0) (fun W e W' hw0 h1 => ?_)
  obtain ⟨rfl, hw⟩ := h1
  have hrow := hw.row
  rw [cs1, ← puts_app] at hrow
  exact ⟨rfl, rfl, _, hrow, og_end h hg (hw0.kb.trans hw.kb) (by simp [puts, i.size]) (puts_ne (by simp)) (fun hR => ig19 x h.ig hR) rfl rfl, (hw0.kb.trans hw.kb).below hlo hlw⟩
end Go.Proofs.YtakaglfeeipeiaaGreat
namespace Go.Proofs.YtakaglfeeipeiaaGreat
open Go.ChangeShapes Go.WideShapes Go.ChangeAt Go.RowKit
theorem ins_rel {α β : Type} {P : β → α → Prop} {us : List β} {l : List α} (hl : us.length = l.length) (h : ∀ (i : Nat) r u, us[i]? = some r → l[i]? = some u → P r u) {i : Nat} (hi : i ≤ l.length) {x : α} {y : β} (hxy : P y x) :
    ∀ (q : Nat) r u, (us.take i ++ y :: us.drop i)[q]? = some r → (l.take i ++ x :: l.drop i)[q]? = some u → P r u := by
  intro q r u hr hu
  have l1 : (us.take i).length = i := by rw [List.length_take]; omega
  have l2 : (l.take i).length = i := by rw [List.length_take]; omega
  rcases Nat.lt_trichotomy q i with hq | hq | hq
  · rw [List.getElem?_append_left (by omega), List.getElem?_take_of_lt hq] at hr hu
    exact h q r u hr hu
  · subst hq
    rw [List.getElem?_append_right (by omega), l1, Nat.sub_self] at hr
    rw [List.getElem?_append_right (by omega), l2, Nat.sub_self] at hu
    cases hr
    cases hu
    exact hxy
  · obtain ⟨k, rfl⟩ : ∃ k, q = i + 1 + k := ⟨q - (i + 1), by omega⟩
    rw [List.getElem?_append_right (by omega), l1, show i + 1 + k - i = k + 1 by omega, List.getElem?_cons_succ, List.getElem?_drop] at hr
    rw [List.getElem?_append_right (by omega), l2, show i + 1 + k - i = k + 1 by omega, List.getElem?_cons_succ, List.getElem?_drop] at hu
    exact h _ r u hr hu
theorem zE_isP (ok : Nat → Prop) (w : World) (n : Nat) : IsP ok w (n + 1) (.agg #[.int .i64 0, .int .i64 0, .int .u64 0, .string ⟨#[]⟩, .slice none 0 0]) zE := by
  obtain ⟨a, c, hv, hf, _⟩ := zE_is w n
  cases hv
  exact ⟨none, 0, rfl, hf, fun i t h => by simp at h⟩
theorem chP9 (lo B n : Nat) (cs es : Array Value) (s : Sta) (x : Ev) (w : World) (hg : w.heap[B]? = some (.cells cs 37 (0, 0))) (h : Og (fun b => b ≠ B) lo w (n + 1) cs s) (he : IsEv (IsP (Vk (fun b => b ≠ B) lo w cs) w (n + 1)) es x) (hlo : lo ≤ B) (hk : x.k = 9) (lt : s.tm.length ≤ 500) :
    Calls Tryz.prog 51 #[.pointer (some ⟨B, 0, none⟩), .agg es] w (ChP lo B (n + 1) (ch9 s x) w) := by
  have hBl : B < w.heap.size := (Array.getElem?_eq_some_iff.1 hg).1
  have hlw : lo ≤ w.heap.size := by omega
  have i := h.ig
  have e0 := he.c0
  rw [hk] at e0
  obtain ⟨a, c, t1, t2⟩ := h.tm
  have o1 : ∀ q, q ≠ 2 → q ≠ 3 → (cs1 cs s.count x.t)[q]? = cs[q]? := fun q h2 h3 => puts_ne (by simp; omega)
  have f := fun q v (h2 : q ≠ 2) (h3 : q ≠ 3) (hq : cs[q]? = some v) => (o1 q h2 h3).trans hq
  have key := fun (W : World) (hw : WrS B w W (cs1 cs s.count x.t)) => timers9 lo B _ es s.tm a c x.s x.d W hw.row (f 23 _ (by decide) (by decide) t1) (owns_blk t2 (Nat.le_refl _) fun b hb => ne_blk hw.kb (t2.lt b hb).2 (fun e => box_ne t2 (by decide) hg (by rw [← e]; exact hb))) lt hlo e0 he.c3 he.c4
  have er : (insL (fun d => gtS d.s x.s) s.tm ⟨x.s, x.d⟩).map Tm.cells = (ch9 s x).tm.map Tm.cells := rfl
  rw [er] at key
  generalize hrw : (ch9 s x).tm.map Tm.cells = rows at key
  refine chgC9 B cs es s.count s.time x.t w (LsP lo B (cs1 cs s.count x.t) 23 64 2 (.slice a s.tm.length c) rows []) _ hg i.c2 i.c3 he.size e0 he.c1 key (fun W e W' hw0 h1 => ?_)
  obtain ⟨rfl, v, hrow, hl⟩ := h1
  have hl' := hl.from hw0.kb hlo hlw
  rw [← hrw] at hl'
  have hrow' : W'.heap[B]? = some (.cells (puts cs [(2, .int .i64 (wrap64 (s.count + 1))), (3, .int .i64 x.t), (23, v)]) 37 (0, 0)) := hrow
  exact ⟨rfl, rfl, _, hrow', og_tm h hg t1 hl' (by simp [puts, i.size]) (puts_ne (by simp)) (fun hR => ig9 x v h.ig hR) rfl, hl'.bel⟩
theorem chP10 (lo B n : Nat) (cs es : Array Value) (s : Sta) (x : Ev) (w : World) (hg : w.heap[B]? = some (.cells cs 37 (0, 0))) (h : Og (fun b => b ≠ B) lo w (n + 1) cs s) (he : IsEv (IsP (Vk (fun b => b ≠ B) lo w cs) w (n + 1)) es x) (hlo : lo ≤ B) (hk : x.k = 10) (lt : s.tm.length ≤ 500) (j : Nat) (hz : tmAt s x.s = (j : Int)) (hj : j < s.tm.length) :
    Calls Tryz.prog 51 #[.pointer (some ⟨B, 0, none⟩), .agg es] w (ChP lo B (n + 1) (ch10 s x) w) := by
  have hBl : B < w.heap.size := (Array.getElem?_eq_some_iff.1 hg).1
  have hlw : lo ≤ w.heap.size := by omega
  have i := h.ig
  have e0 := he.c0
  rw [hk] at e0
  obtain ⟨a, c, t1, t2⟩ := h.tm
  have o1 : ∀ q, q ≠ 2 → q ≠ 3 → (cs1 cs s.count x.t)[q]? = cs[q]? := fun q h2 h3 => puts_ne (by simp; omega)
  have f := fun q v (h2 : q ≠ 2) (h3 : q ≠ 3) (hq : cs[q]? = some v) => (o1 q h2 h3).trans hq
  have hOg : ∀ W, WrS B w W (cs1 cs s.count x.t) → Og (fun b => b ≠ B) lo W (n + 1) (cs1 cs s.count x.t) (ch14 s x) := fun W hw => og_same h hg hw.kb (puts_ne (by simp)) (puts_ne (by simp)) (fun hR => ig14 x h.ig hR) rfl rfl
  have ej : (tmAt s x.s).toNat = j := by rw [hz]; simp
  have hR97 : ∀ W, WrS B w W (cs1 cs s.count x.t) → Hid (∀ W', Below W.heap.size W W' → Calls Tryz.prog 70 #[.agg (cs1 cs s.count x.t), .string x.s] W' (IxP (j : Int) W')) := fun W hw W' hB => by
    have := timerAt_calls (n + 1) (cs1 cs s.count x.t) (ch14 s x) x.s W' ((hOg W hw).ps.rs.below hB) (show s.tm.length ≤ 1000 by omega)
    rw [show tmAt (ch14 s x) x.s = (j : Int) from hz] at this
    exact this
  refine chgC10 B cs es s.count s.time x.t w (LsP lo B (cs1 cs s.count x.t) 23 64 2 (.slice a s.tm.length c) ((delL s.tm j).map Tm.cells) [(21, .bool true)]) _ hg i.c2 i.c3 he.size e0 he.c1 (fun W hw => timers10 lo B _ es s.tm a c x.s j s.fresh W hw.row (by rw [cs1, puts_size]; exact i.size) (f 21 _ (by decide) (by decide) i.c21) (f 23 _ (by decide) (by decide) t1) (owns_blk t2 (Nat.le_refl _) fun b hb => ne_blk hw.kb (t2.lt b hb).2 (fun e => box_ne t2 (by decide) hg (by rw [← e]; exact hb))) lt hlo hj (hR97 W hw) e0 he.c4) (fun W e W' hw0 h1 => ?_)
  obtain ⟨rfl, v, hrow, hl⟩ := h1
  have hl' := hl.from hw0.kb hlo hlw
  rw [← ej] at hl'
  have hrow' : W'.heap[B]? = some (.cells (puts cs [(2, .int .i64 (wrap64 (s.count + 1))), (3, .int .i64 x.t), (23, v), (21, .bool true)]) 37 (0, 0)) := hrow
  exact ⟨rfl, rfl, _, hrow', og_tm h hg t1 hl' (by simp [puts, i.size]) (puts_ne (by simp)) (fun hR => ig10 x v h.ig hR) rfl, hl'.bel⟩
theorem chP11 (lo B n : Nat) (cs es : Array Value) (s : Sta) (x : Ev) (w : World) (hg : w.heap[B]? = some (.cells cs 37 (0, 0))) (h : Og (fun b => b ≠ B) lo w (n + 1) cs s) (he : IsEv (IsP (Vk (fun b => b ≠ B) lo w cs) w (n + 1)) es x) (hlo : lo ≤ B) (hk : x.k = 11) (lt : s.tm.length ≤ 500) (j : Nat) (hz : tmAt s x.s = (j : Int)) (hj : j < s.tm.length) :
    Calls Tryz.prog 51 #[.pointer (some ⟨B, 0, none⟩), .agg es] w (ChP lo B (n + 1) (ch11 s x) w) := by
  have hBl : B < w.heap.size := (Array.getElem?_eq_some_iff.1 hg).1
  have hlw : lo ≤ w.heap.size := by omega
  have i := h.ig
  have e0 := he.c0
  rw [hk] at e0
  obtain ⟨a, c, t1, t2⟩ := h.tm
  have o1 : ∀ q, q ≠ 2 → q ≠ 3 → (cs1 cs s.count x.t)[q]? = cs[q]? := fun q h2 h3 => puts_ne (by simp; omega)
  have f := fun q v (h2 : q ≠ 2) (h3 : q ≠ 3) (hq : cs[q]? = some v) => (o1 q h2 h3).trans hq
  have hOg : ∀ W, WrS B w W (cs1 cs s.count x.t) → Og (fun b => b ≠ B) lo W (n + 1) (cs1 cs s.count x.t) (ch14 s x) := fun W hw => og_same h hg hw.kb (puts_ne (by simp)) (puts_ne (by simp)) (fun hR => ig14 x h.ig hR) rfl rfl
  have ej : (tmAt s x.s).toNat = j := by rw [hz]; simp
  have hR97 : ∀ W, WrS B w W (cs1 cs s.count x.t) → Hid (∀ W', Below W.heap.size W W' → Calls Tryz.prog 70 #[.agg (cs1 cs s.count x.t), .string x.s] W' (IxP (j : Int) W')) := fun W hw W' hB => by
    have := timerAt_calls (n + 1) (cs1 cs s.count x.t) (ch14 s x) x.s W' ((hOg W hw).ps.rs.below hB) (show s.tm.length ≤ 1000 by omega)
    rw [show tmAt (ch14 s x) x.s = (j : Int) from hz] at this
    exact this
  refine chgC11 B cs es s.count s.time x.t w (LsP lo B (cs1 cs s.count x.t) 23 64 2 (.slice a s.tm.length c) ((delL s.tm j).map Tm.cells) []) _ hg i.c2 i.c3 he.size e0 he.c1 (fun W hw => timers11 lo B _ es s.tm a c x.s j s.fresh W hw.row (by rw [cs1, puts_size]; exact i.size) (f 21 _ (by decide) (by decide) i.c21) (f 23 _ (by decide) (by decide) t1) (owns_blk t2 (Nat.le_refl _) fun b hb => ne_blk hw.kb (t2.lt b hb).2 (fun e => box_ne t2 (by decide) hg (by rw [← e]; exact hb))) lt hlo hj (hR97 W hw) e0 he.c4) (fun W e W' hw0 h1 => ?_)
  obtain ⟨rfl, v, hrow, hl⟩ := h1
  have hl' := hl.from hw0.kb hlo hlw
  rw [← ej] at hl'
  have hrow' : W'.heap[B]? = some (.cells (puts cs [(2, .int .i64 (wrap64 (s.count + 1))), (3, .int .i64 x.t), (23, v)]) 37 (0, 0)) := hrow
  exact ⟨rfl, rfl, _, hrow', og_tm h hg t1 hl' (by simp [puts, i.size]) (puts_ne (by simp)) (fun hR => ig11 x v h.ig hR) rfl, hl'.bel⟩
theorem chP12 (lo B n : Nat) (cs es : Array Value) (s : Sta) (x : Ev) (w : World) (hg : w.heap[B]? = some (.cells cs 37 (0, 0))) (h : Og (fun b => b ≠ B) lo w (n + 1) cs s) (he : IsEv (IsP (Vk (fun b => b ≠ B) lo w cs) w (n + 1)) es x) (hlo : lo ≤ B) (hk : x.k = 12) (lu : s.up.length ≤ 500) :
    Calls Tryz.prog 51 #[.pointer (some ⟨B, 0, none⟩), .agg es] w (ChP lo B (n + 1) (ch12 s x) w) := by
  have hBl : B < w.heap.size := (Array.getElem?_eq_some_iff.1 hg).1
  have hlw : lo ≤ w.heap.size := by omega
  have i := h.ig
  have e0 := he.c0
  rw [hk] at e0
  obtain ⟨a, c, us, u1, u2, u3, u4⟩ := h.up
  have hus : ∀ (i : Nat) r, us[i]? = some r → r.size = 12 ∧ ∀ (j : Nat) (v : Value), r[j]? = some v → v.oneCell' = true := fun i r hr => by
    have hi := (List.getElem?_eq_some_iff.1 hr).1
    have := u4 i r _ hr (List.getElem?_eq_getElem (by omega))
    exact ⟨this.size, this.one⟩
  obtain ⟨k0, x0, b0, s0, a0, m0, n0, v5, v6, v7, v8, v9, hv⟩ := he.v
  have o1 : ∀ q, q ≠ 2 → q ≠ 3 → (cs1 cs s.count x.t)[q]? = cs[q]? := fun q h2 h3 => puts_ne (by simp; omega)
  have f := fun q v (h2 : q ≠ 2) (h3 : q ≠ 3) (hq : cs[q]? = some v) => (o1 q h2 h3).trans hq
  refine chgC12 B cs es s.count s.time x.t w (LsP lo B (cs1 cs s.count x.t) 24 67 12 (.slice a s.up.length c) (us.take (insI (fun d => gtS d.s x.s) s.up) ++ #[.string x.s, .int .i64 k0, .int .i64 x0, .int .u64 b0, .string s0, .slice a0 m0 n0, .int .i64 1, .int .i64 0, .int .i64 0, .int .u64 0, .string ⟨#[]⟩, .slice none 0 0] :: us.drop (insI (fun d => gtS d.s x.s) s.up)) []) _ hg i.c2 i.c3 he.size e0 he.c1 (fun W hw => updates12 lo B _ es s.up us a c x.s k0 x0 b0 s0 a0 m0 n0 W hw.row (f 24 _ (by decide) (by decide) u1) (owns_blk u2 (Nat.le_refl _) fun b hb => ne_blk hw.kb (u2.lt b hb).2 (fun e => box_ne u2 (by decide) hg (by rw [← e]; exact hb))) u3 hus (fun i r u hr hu => (u4 i r u hr hu).uh) lu hlo e0 he.c4 v5 v6 v7 v8 v9) (fun W e W' hw0 h1 => ?_)
  obtain ⟨rfl, v, hrow, hl⟩ := h1
  have hl' := hl.from hw0.kb hlo hlw
  have hrow' : W'.heap[B]? = some (.cells (puts cs [(2, .int .i64 (wrap64 (s.count + 1))), (3, .int .i64 x.t), (24, v)]) 37 (0, 0)) := hrow
  have hil := insI_le (fun d : Up => gtS d.s x.s) s.up
  refine ⟨rfl, rfl, _, hrow', og_up h hg u1 hl' ?_ (puts_ne (by simp)) (by simp [puts, i.size]) (fun hR => ig12 x v h.ig hR) rfl (fun hR => ?_), hl'.bel⟩
  · show _ = (insL (fun d => gtS d.s x.s) s.up _).length
    rw [insL_length]
    simp
    omega
  · exact ins_rel u3 (fun i r u hr hu => (u4 i r u hr hu).map hR) hil ⟨rfl, rfl, ⟨k0, x0, b0, s0, a0, m0, n0, rfl, rfl, rfl, rfl, rfl, hR _ _ hv⟩, rfl, ⟨0, 0, 0, ⟨#[]⟩, none, 0, 0, rfl, rfl, rfl, rfl, rfl, zE_isP _ _ _⟩⟩
theorem chP13 (lo B n : Nat) (cs es : Array Value) (s : Sta) (x : Ev) (w : World) (hg : w.heap[B]? = some (.cells cs 37 (0, 0))) (h : Og (fun b => b ≠ B) lo w (n + 1) cs s) (he : IsEv (IsP (Vk (fun b => b ≠ B) lo w cs) w (n + 1)) es x) (hlo : lo ≤ B) (hk : x.k = 13) (lu : s.up.length ≤ 500) (j : Nat) (hz : waAt s x.s = (j : Int)) (hj : j < s.up.length) :
    Calls Tryz.prog 51 #[.pointer (some ⟨B, 0, none⟩), .agg es] w (ChP lo B (n + 1) (ch13 s x) w) := by
  have hBl : B < w.heap.size := (Array.getElem?_eq_some_iff.1 hg).1
  have hlw : lo ≤ w.heap.size := by omega
  have i := h.ig
  have e0 := he.c0
  rw [hk] at e0
  obtain ⟨a, c, us, u1, u2, u3, u4⟩ := h.up
  have hus : ∀ (i : Nat) r, us[i]? = some r → r.size = 12 ∧ ∀ (j : Nat) (v : Value), r[j]? = some v → v.oneCell' = true := fun i r hr => by
    have hi := (List.getElem?_eq_some_iff.1 hr).1
    have := u4 i r _ hr (List.getElem?_eq_getElem (by omega))
    exact ⟨this.size, this.one⟩
  obtain ⟨k0, x0, b0, s0, a0, m0, n0, v5, v6, v7, v8, v9, hv⟩ := he.v
  have o1 : ∀ q, q ≠ 2 → q ≠ 3 → (cs1 cs s.count x.t)[q]? = cs[q]? := fun q h2 h3 => puts_ne (by simp; omega)
  have f := fun q v (h2 : q ≠ 2) (h3 : q ≠ 3) (hq : cs[q]? = some v) => (o1 q h2 h3).trans hq
  have hOg : ∀ W, WrS B w W (cs1 cs s.count x.t) → Og (fun b => b ≠ B) lo W (n + 1) (cs1 cs s.count x.t) (ch14 s x) := fun W hw => og_same h hg hw.kb (puts_ne (by simp)) (puts_ne (by simp)) (fun hR => ig14 x h.ig hR) rfl rfl
  have ej : (waAt s x.s).toNat = j := by rw [hz]; simp
  have hR98 : ∀ W, WrS B w W (cs1 cs s.count x.t) → Hid (∀ W', Below W.heap.size W W' → Calls Tryz.prog 72 #[.agg (cs1 cs s.count x.t), .string x.s] W' (IxP (j : Int) W')) := fun W hw W' hB => by
    have := waitingAt_calls (n + 1) (cs1 cs s.count x.t) (ch14 s x) x.s W' ((hOg W hw).ps.rs.below hB) (show s.up.length ≤ 1000 by omega)
    rw [show waAt (ch14 s x) x.s = (j : Int) from hz] at this
    exact this
  obtain ⟨r, hr⟩ : ∃ r, us[j]? = some r := ⟨_, List.getElem?_eq_getElem (by omega)⟩
  obtain ⟨u, hu⟩ : ∃ u, s.up[j]? = some u := ⟨_, List.getElem?_eq_getElem hj⟩
  have hIU := u4 j r u hr hu
  obtain ⟨k1, x1, b1, s1, a1, l1, n1, r7, r8, r9, r10, r11, _⟩ := hIU.o
  obtain ⟨UB, rfl⟩ : ∃ UB, a = some ⟨UB, 0, none⟩ := by
    obtain ⟨_, ⟨_, h0⟩ | ⟨g, cap, cur, h1, _⟩⟩ := u2
    · omega
    · cases h1
      exact ⟨g, rfl⟩
  refine chgC13 B cs es s.count s.time x.t w (OuP lo B UB s.up.length c (cs1 cs s.count x.t) (us.set j (endU r [.int .i64 2, .int .i64 k0, .int .i64 x0, .int .u64 b0, .string s0, .slice a0 m0 n0]))) _ hg i.c2 i.c3 he.size e0 he.c1 (fun W hw => updates13 lo B UB s.up.length c _ es us x.s j r u.g k1 x1 b1 s1 a1 l1 n1 k0 x0 b0 s0 a0 m0 n0 W hw.row (by rw [cs1, puts_size]; exact i.size) (f 24 _ (by decide) (by decide) u1) (owns_blk u2 (Nat.le_refl _) fun b hb => ne_blk hw.kb (u2.lt b hb).2 (fun e => box_ne u2 (by decide) hg (by rw [← e]; exact hb))) u3 (fun i r hr => (hus i r hr).1) lu hlo hr hIU.c6 r7 r8 r9 r10 r11 (hR98 W hw) e0 he.c4 v5 v6 v7 v8 v9) (fun W e W' hw0 h1 => ?_)
  obtain ⟨rfl, hrow, hown, hbel, hkeep⟩ := h1
  have hs0 := hw0.kb.2.2.2.1
  have hl' : Lw lo B 67 12 (.slice (some ⟨UB, 0, none⟩) s.up.length c) (us.set j (endU r [.int .i64 2, .int .i64 k0, .int .i64 x0, .int .u64 b0, .string s0, .slice a0 m0 n0])) w (.slice (some ⟨UB, 0, none⟩) s.up.length c) W' := ⟨by rw [List.length_set, u3]; exact hown, (hw0.kb.below hlo hlw).trans hbel, fun B' b1 b2 b3 => (hkeep B' (by omega) (fun e => b3 (by rw [e]; rfl))).trans (ne_blk hw0.kb b1 b2), .inl rfl⟩
  have hsz := hIU.size
  refine ⟨rfl, rfl, _, hrow, og_up h hg u1 hl' ?_ (puts_ne (by simp)) ((puts_ne (by simp)).trans u1) (fun hR => ig13 x h.ig hR) rfl (fun hR => ?_), hl'.bel⟩
  · show _ = (s.up.modify _ _).length
    simp [u3]
  · intro q r' u' hr' hu'
    have hu2 : (s.up.modify j (fun u => { u with g := 2, o := x.v }))[q]? = some u' := by
      have : (ch13 s x).up = s.up.modify j (fun u => { u with g := 2, o := x.v }) := by rw [← ej]; rfl
      rw [← this]
      exact hu'
    rw [List.getElem?_set] at hr'
    rw [List.getElem?_modify] at hu2
    by_cases hq : j = q
    · subst hq
      simp only [show j < us.length by omega, if_true, Option.some.injEq] at hr'
      have hue : u' = { u with g := 2, o := x.v } := by simpa [hu, eq_comm] using hu2
      subst hue
      subst hr'
      have o := hIU.map hR
      exact ⟨endU_size hsz rfl, (endU_lo hsz (by decide)).trans o.c0, o.v.other fun q h1 h2 => endU_lo hsz (by omega), endU_hi (j := 0) hsz, ⟨k0, x0, b0, s0, a0, m0, n0, endU_hi (j := 1) hsz, endU_hi (j := 2) hsz, endU_hi (j := 3) hsz, endU_hi (j := 4) hsz, endU_hi (j := 5) hsz, hR _ _ hv⟩⟩
    · rw [if_neg hq] at hr'
      simp only [if_neg hq] at hu2
      exact (u4 q r' u' hr' (by simpa using hu2)).map hR
theorem change_calls (lo B n : Nat) (cs es : Array Value) (s : Sta) (x : Ev) (w : World) (hg : w.heap[B]? = some (.cells cs 37 (0, 0))) (h : Og (fun b => b ≠ B) lo w (n + 1) cs s) (he : IsEv (IsP (Vk (fun b => b ≠ B) lo w cs) w (n + 1)) es x) (hlo : lo ≤ B) (hk : 1 ≤ x.k ∧ x.k ≤ 19) (hf : fitsB s x = true) (lt : s.tm.length ≤ 500) (lu : s.up.length ≤ 500) :
    Calls Tryz.prog 51 #[.pointer (some ⟨B, 0, none⟩), .agg es] w (ChP lo B (n + 1) (chg s x) w) := by
  have hc : x.k = 1 ∨ x.k = 2 ∨ x.k = 3 ∨ (x.k = 4 ∨ x.k = 5 ∨ x.k = 6) ∨ x.k = 7 ∨ x.k = 8 ∨ x.k = 9 ∨ x.k = 10 ∨ x.k = 11 ∨ x.k = 12 ∨ x.k = 13 ∨ x.k = 14 ∨ x.k = 15 ∨ x.k = 16 ∨ x.k = 17 ∨ x.k = 18 ∨ x.k = 19 := by omega
  rcases hc with k | k | k | k | k | k | k | k | k | k | k | k | k | k | k | k | k
  · rw [chg_1 s x k]
    exact chP1 lo B n cs es s x w hg h he hlo k
  · rw [chg_2 s x k]
    exact chP2 lo B n cs es s x w hg h he hlo k
  · rw [chg_3 s x k]
    exact chP3 lo B n cs es s x w hg h he hlo k
  · rw [chg_from s x k]
    by_cases hn : 0 < x.n
    · rw [if_pos hn]
      rcases k with k | k | k
      · exact chP4b lo B n cs es s x w hg h he hlo k hn
      · exact chP5b lo B n cs es s x w hg h he hlo k hn
      · exact chP6b lo B n cs es s x w hg h he hlo k hn
    · rw [if_neg hn]
      rcases k with k | k | k
      · exact chP4a lo B n cs es s x w hg h he hlo k hn
      · exact chP5a lo B n cs es s x w hg h he hlo k hn
      · exact chP6a lo B n cs es s x w hg h he hlo k hn
  · rw [chg_7 s x k]
    exact chP7 lo B n cs es s x w hg h he hlo k
  · rw [chg_8 s x k]
    exact chP8 lo B n cs es s x w hg h he hlo k
  · rw [chg_9 s x k]
    exact chP9 lo B n cs es s x w hg h he hlo k lt
  · rw [chg_10 s x k]
    rcases ixI_cases (fun d : Tm => eqS d.s x.s) s.tm with ⟨j, d, g1, g2, _⟩ | ⟨g1, _⟩
    · exact chP10 lo B n cs es s x w hg h he hlo k lt j g1 (List.getElem?_eq_some_iff.1 g2).1
    · have g1' : tmAt s x.s = -1 := g1
      simp [fitsB, k, g1', dueB] at hf
      revert hf
      cases s.tm[0]? <;> simp
  · rw [chg_11 s x k]
    rcases ixI_cases (fun d : Tm => eqS d.s x.s) s.tm with ⟨j, d, g1, g2, _⟩ | ⟨g1, _⟩
    · exact chP11 lo B n cs es s x w hg h he hlo k lt j g1 (List.getElem?_eq_some_iff.1 g2).1
    · have g1' : tmAt s x.s = -1 := g1
      simp [fitsB, k, g1'] at hf
  · rw [chg_12 s x k]
    exact chP12 lo B n cs es s x w hg h he hlo k lu
  · rw [chg_13 s x k]
    rcases ixI_cases (fun d : Up => eqS d.s x.s && (d.g == 1)) s.up with ⟨j, d, g1, g2, _⟩ | ⟨g1, _⟩
    · exact chP13 lo B n cs es s x w hg h he hlo k lu j g1 (List.getElem?_eq_some_iff.1 g2).1
    · have g1' : waAt s x.s = -1 := g1
      simp [fitsB, k, g1'] at hf
  · rw [chg_14 s x k]
    exact chP14 lo B n cs es s x w hg h he hlo k
  · rw [chg_15 s x k]
    exact chP15 lo B n cs es s x w hg h he hlo k
  · rw [chg_16 s x k]
    exact chP16 lo B n cs es s x w hg h he hlo k
  · rw [chg_17 s x k]
    exact chP17 lo B n cs es s x w hg h he hlo k
  · rw [chg_18 s x k]
    exact chP18 lo B n cs es s x w hg h he hlo k
  · rw [chg_19 s x k]
    exact chP19 lo B n cs es s x w hg h he hlo k
end Go.Proofs.YtakaglfeeipeiaaGreat
namespace Go.Proofs.YtakaglfeeipeiaaGreat
open Go.ChangeShapes Go.WideShapes Go.ChangeAt Go.RowKit
theorem ret_cell_tmp {fn : Func} {p q : Tmp} {ty : TypeId} (h : fn.results = #[.cell p ty, .tmp q]) (tmps : Array Value) {w : World} {v u : Value} {a : Addr} (hp : tmps.getD p undef = .pointer (some a)) (hq : tmps.getD q undef = u) (hl : (loadVar ty a).run Tryz.prog w = .ok v w) : (results fn tmps).run Tryz.prog w = .ok (.tuple #[v, u]) w := by
  have hp' : tmps[p]?.getD undef = .pointer (some a) := by simpa using hp
  have hq' : tmps[q]?.getD undef = u := by simpa using hq
  simp [results, h, hp', hq', asAddr, hl]
/-- What Step tells: the state and the code. -/
def StR (n : Nat) (s : Sta) (x : Ev) (s' : Sta) (code : Int) : Prop := (MayE n x → code = refC s x) ∧ (¬ MayE n x → code = 1) ∧ s' = if code = 0 then chg s x else s
theorem StR.det {n : Nat} {s s1 s2 : Sta} {x : Ev} {c1 c2 : Int} (h1 : StR n s x s1 c1) (h2 : StR n s x s2 c2) : c1 = c2 ∧ s1 = s2 := by
  obtain ⟨a1, b1, d1⟩ := h1
  obtain ⟨a2, b2, d2⟩ := h2
  have e : c1 = c2 := by
    by_cases hm : MayE n x
    · rw [a1 hm, a2 hm]
    · rw [b1 hm, b2 hm]
  subst e
  exact ⟨rfl, d1.trans d2.symm⟩
def StG (n : Nat) (s : Sta) (x : Ev) (w : World) (e : Ending) (w' : World) : Prop :=
  (∃ cs' code s', e = .returned (.tuple #[.agg cs', .int .i64 code]) ∧ StR (n + 1) s x s' code ∧ Ps (Free w.heap.size w') w' (n + 1) cs' s') ∧ Below w.heap.size w w'
theorem refC_fits {s : Sta} {x : Ev} (h : refC s x = 0) : fitsB s x = true ∧ roomB s x = true ∧ s.count < 120 ∧ inT s x = true ∧ s.time ≤ x.t := by
  unfold refC at h
  split at h
  · omega
  · split at h
    · omega
    · split at h
      · omega
      · split at h
        · omega
        · split at h
          · omega
          · rename_i h1 h2 h3 h4 h5
            exact ⟨by simpa using h4, by simpa using h5, by omega, by simpa using h2, by omega⟩
theorem MayE.kind {n : Nat} {x : Ev} (h : MayE n x) : 1 ≤ x.k ∧ x.k ≤ 19 := by
  have := h.1
  simp [wi] at this
  exact this
/-- A clone ahead of the box B. -/
theorem Og.box {lo B n : Nat} {w w' : World} {cs : Array Value} {s : Sta} (h : Og (fun _ => True) lo w n cs s) (hb : Below w.heap.size w w') (hB : w.heap.size ≤ B) : Og (fun b => b ≠ B) lo w' n cs s := by
  have hR : ∀ v t, IsP (Vk (fun _ => True) lo w cs) w n v t → IsP (Vk (fun b => b ≠ B) lo w' cs) w' n v t := fun v t hv => hv.keep (fun b hlt hk => ⟨by omega, free_keep (hb.block b hlt) hk.2.1, hk.2.2⟩) (fun b hlt _ => hb.block b hlt)
  obtain ⟨a, c, t1, t2⟩ := h.tm
  obtain ⟨ua, uc, us, u1, u2, u3, u4⟩ := h.up
  exact ⟨h.ig.map hR, ⟨a, c, t1, owns_blk t2 (Nat.le_refl _) fun b hb' => hb.block b (t2.lt b hb').2⟩, ⟨ua, uc, us, u1, owns_blk u2 (Nat.le_refl _) fun b hb' => hb.block b (u2.lt b hb').2, u3, fun i r u hr hu => (u4 i r u hr hu).map hR⟩⟩
theorem Og.nb {ok : Nat → Prop} {lo n : Nat} {w : World} {cs : Array Value} {s : Sta} (h : Og ok lo w n cs s) {b : Nat} (hb : w.heap.size ≤ b) : Nb cs b := fun v hv e => by
  obtain ⟨a, c, t1, t2⟩ := h.tm
  obtain ⟨ua, uc, us, u1, u2, _, _⟩ := h.up
  rcases hv with hv | hv
  · rw [t1] at hv; cases hv
    have := (t2.lt b e).2
    omega
  · rw [u1] at hv; cases hv
    have := (u2.lt b e).2
    omega
theorem Ps.low {lo lo' n g : Nat} {w w' : World} {cs : Array Value} {s : Sta} (h : Ps (Free lo w) w n cs s) (hl : lo' ≤ lo) (hk : KB g w w') (hg : g < lo) : Ps (Free lo' w') w' n cs s :=
  h.keep (fun B hB hf => free_keep (ne_blk hk hB (by have := hf.1; omega)) ⟨by have := hf.1; omega, hf.2⟩) fun B hB hf => ne_blk hk hB (by have := hf.1; omega)
set_option maxHeartbeats 4000000 in
set_option maxRecDepth 100000 in
theorem step_calls (n : Nat) (cs es : Array Value) (s : Sta) (x : Ev) (w : World) (h : Rs w (n + 1) cs s) (he : IsEv (Is w (n + 1)) es x) (hc : x.c < 18446744073709551616) (sm : SmS (n + 1) s) (sx : SmallW (n + 1) x.v) (lt : s.tm.length ≤ 500) (lu : s.up.length ≤ 500) :
    Calls Tryz.prog 39 #[.agg cs, .agg es] w (StG n s x w) := by
  have KC : Hid (∀ W, Below w.heap.size w W → Calls Tryz.prog 21 #[.agg cs] W (ClS (n + 1) W s)) := fun W hB => sclone_calls (n + 1) cs s W (h.below hB) sm (by omega) (by omega)
  have KR : Hid (∀ W, Below w.heap.size w W → Calls Tryz.prog 50 #[.agg cs, .agg es] W (RfP (MayE (n + 1) x) s x W)) := fun W hB => refusal_calls n cs es s x W (h.below hB) (he.map fun v t h => h.below hB) hc (by omega) (by omega)
  have KE : Hid (∀ W, Below w.heap.size w W → Calls Tryz.prog 52 #[.agg es] W (EcP (n + 1) W x)) := fun W hB => evcloneA (n + 1) es x W (he.map fun v t h => h.below hB) sx
  have hi33 := info33s cs h.size
  have hi46 := info46s es he.size
  have HQ : Hid (∀ cs' code s' w', StR (n + 1) s x s' code → Ps (Free w.heap.size w') w' (n + 1) cs' s' → Below w.heap.size w w' → StG n s x w (.returned (.tuple #[.agg cs', .int .i64 code])) w') := fun cs' code s' w' a b c => ⟨⟨cs', code, s', rfl, a, b⟩, c⟩
  have HL : Hid (s.tm.length ≤ 500 ∧ s.up.length ≤ 500) := ⟨lt, lu⟩
  clear h he hc sm sx lt lu
  generalize StG n s x w = Q at HQ ⊢
  go_enter Tryz.func39, Tryz.ntmps39
  have b0 : Hid (Below w.heap.size w (((w.alloc (.cells cs 37)).alloc (.cells es 44)).alloc (.cells zS 37))) := bel2 (bel2 (bel1 _ _) (bel1 _ _)) (bel1 _ _)
  have r0 : (((w.alloc (.cells cs 37)).alloc (.cells es 44)).alloc (.cells zS 37)).heap[w.heap.size]? = some (.cells cs 37 (0, 0)) := row_below (bel1 _ _) (heap_alloc2_old _ _ _)
  have r1 : (((w.alloc (.cells cs 37)).alloc (.cells es 44)).alloc (.cells zS 37)).heap[w.heap.size + 1]? = some (.cells es 44 (0, 0)) := row_below (bel1 _ _) (heap_alloc2_new _ _ _)
  have r2 : (((w.alloc (.cells cs 37)).alloc (.cells es 44)).alloc (.cells zS 37)).heap[w.heap.size + 1 + 1]? = some (.cells zS 37 (0, 0)) := by
    have := heap_alloc_new ((w.alloc (.cells cs 37)).alloc (.cells es 44)) (.cells zS 37)
    simpa using this
  go_upto_region 1 with fail
  change Code.wp _ _ _ _ (((w.alloc (.cells cs 37)).alloc (.cells es 44)).alloc (.cells zS 37))
  generalize ((w.alloc (.cells cs 37)).alloc (.cells es 44)).alloc (.cells zS 37) = W0 at b0 r0 r1 r2 ⊢
  go_wp2_with (refine wpList_load_row rfl 37 _ rfl w.heap.size rfl 37 cs (0, 0) _ r0 Tryz.underlying37 rfl hi33 ?_)
  refine (KC.out _ b0.out).mono ?_
  rintro e w1 ⟨⟨c1, rfl, h1⟩, hb⟩
  have hi1 := info33s c1 h1.ig.size
  have z1 : zS.size = c1.size := h1.ig.size.symm
  have a1 := all_one h1.ps.one
  have b1 : Hid (Below w.heap.size w w1) := bel2 b0.out hb
  have s0 := row_below hb r0
  have s1 := row_below hb r1
  have s2 := row_below hb r2
  have H1 : Hid (Og (fun _ => True) W0.heap.size w1 (n + 1) c1 s) := h1
  have n1 : (w1.alloc (.cells zS 37)).heap[w1.heap.size]? = some (.cells zS 37 (0, 0)) := heap_alloc_new w1 _
  have HS1 : Hid (w.heap.size + 1 + 1 < W0.heap.size) := (Array.getElem?_eq_some_iff.1 r2).1
  have HL1 : Hid (W0.heap.size ≤ w1.heap.size) := hb.size
  clear hb r0 r1 r2 h1 KC
  go_upto_region 2 with (refine wpList_store_row rfl 37 _ _ rfl w1.heap.size c1 rfl rfl 37 zS n1 hi1 z1 a1 ?_)
  rw [World.setRow_alloc_new]
  have hb := bel1 w1 (.cells c1 37)
  have t0 := row_below hb s0
  have t1 := row_below hb s1
  have t2 := row_below hb s2
  have t3 : (w1.alloc (.cells c1 37)).heap[w1.heap.size]? = some (.cells c1 37 (0, 0)) := heap_alloc_new w1 _
  have b2 : Hid (Below w.heap.size w (w1.alloc (.cells c1 37))) := bel2 b1.out hb
  have H2 : Hid (Below w1.heap.size w1 (w1.alloc (.cells c1 37))) := hb
  have HZ2 : Hid (w1.heap.size < (w1.alloc (.cells c1 37)).heap.size) := by show _ < _; simp
  clear hb s0 s1 s2 n1
  generalize w1.alloc (.cells c1 37) = W2 at t0 t1 t2 t3 b2 H2 HZ2 ⊢
  go_wp2_with (first | refine wpList_load_row rfl 37 _ rfl w.heap.size rfl 37 cs (0, 0) _ t0 Tryz.underlying37 rfl hi33 ?_ | refine wpList_load_row rfl 44 _ rfl (w.heap.size + 1) rfl 44 es (0, 0) _ t1 Tryz.underlying44 rfl hi46 ?_)
  refine (KR.out _ b2.out).mono ?_
  rintro e w3 ⟨⟨r, rfl, hr1, hr2⟩, hb⟩
  have HRc : Hid ((MayE (n + 1) x → r = refC s x) ∧ (¬ MayE (n + 1) x → r = 1)) := ⟨hr1, hr2⟩
  have u1 := row_below hb t1
  have u2 := row_below hb t2
  have u3 := row_below hb t3
  have b3 : Hid (Below w.heap.size w w3) := bel2 b2.out hb
  have H3 : Hid (Below w1.heap.size w1 w3) := bel2 H2.out hb
  have HZ3 : Hid (w1.heap.size < w3.heap.size) := Nat.lt_of_lt_of_le HZ2.out hb.size
  clear hb t0 t1 t2 t3 H2 HZ2 hr1 hr2
  by_cases hr : r = 0
  · subst hr
    have HM : Hid (MayE (n + 1) x) := by
      show MayE (n + 1) x
      by_cases hm : MayE (n + 1) x
      · exact hm
      · have := HRc.out.2 hm
        omega
    go_wp2_with (refine wpList_load_row rfl 44 _ rfl (w.heap.size + 1) rfl 44 es (0, 0) _ u1 Tryz.underlying44 rfl hi46 ?_)
    refine (KE.out _ b3.out).mono ?_
    rintro e w4 ⟨⟨e1, rfl, h4⟩, hb⟩
    have v2 := row_below hb u2
    have v3 := row_below hb u3
    have b4 : Hid (Below w.heap.size w w4) := bel2 b3.out hb
    have H4 : Below w1.heap.size w1 w4 := bel2 H3.out hb
    have hz := HZ3.out
    have hn := H1.out
    have KG := change_calls W0.heap.size w1.heap.size n c1 e1 s x w4 v3 (H1.out.box H4 (Nat.le_refl _)) (h4.map fun v t hv => hv.keep (fun b _ hf => ⟨by have := hf.1; omega, ⟨by have := hf.1; have := HL1.out; omega, hf.2⟩, hn.nb (by have := hf.1; omega)⟩) (fun _ _ _ => rfl)) HL1.out HM.out.kind (refC_fits (HRc.out.1 HM.out).symm).1 HL.out.1 HL.out.2
    have KG2 : Hid (Calls Tryz.prog 51 #[.pointer (some ⟨w1.heap.size, 0, none⟩), .agg e1] w4 (ChP W0.heap.size w1.heap.size (n + 1) (chg s x) w4)) := KG
    have HW : Hid (W0.heap.size ≤ w4.heap.size) := Nat.le_trans HL1.out H4.size
    have HW0 : Hid (w.heap.size ≤ W0.heap.size) := b0.out.size
    clear hb u1 u2 u3 h4 H4 hz hn KG v3
    go_wp2_with fail
    refine KG2.out.mono ?_
    rintro e w5 ⟨rfl, c5, r5, o5, hb5⟩
    have v5 : w5.heap[w.heap.size + 1 + 1]? = some (.cells zS 37 (0, 0)) := by rw [hb5.block _ HS1.out]; exact v2
    have b5 : Hid (Below w.heap.size w w5) := b4.out.trans (hb5.mono HW0.out)
    have hi5 := info33s c5 o5.ig.size
    have z5 : zS.size = c5.size := o5.ig.size.symm
    have a5 := all_one o5.ps.one
    have HP5 : Hid (Ps (Free W0.heap.size w5) w5 (n + 1) c5 (chg s x)) := o5.ps
    clear KG2 v2 hb5 o5
    go_wp2_with (first | refine wpList_load_row rfl 37 _ rfl w1.heap.size rfl 37 c5 (0, 0) _ r5 Tryz.underlying37 rfl hi5 ?_ | refine wpList_store_row rfl 37 _ _ rfl (w.heap.size + 1 + 1) c5 rfl rfl 37 zS v5 hi5 z5 a5 ?_)
    have k9 := setRow_heap w5 (w.heap.size + 1 + 1) zS c5 37 (0, 0) v5
    have hl : (loadVar 37 ⟨w.heap.size + 1 + 1, 0, none⟩).run Tryz.prog (w5.setRow (w.heap.size + 1 + 1) c5) = .ok (.agg c5) (w5.setRow (w.heap.size + 1 + 1) c5) := run_loadVar_row _ (w.heap.size + 1 + 1) 37 37 c5 (0, 0) _ k9 Tryz.underlying37 rfl hi5
    exact bodyPost_ret (v := .tuple #[.agg c5, .int .i64 0]) (ret_cell_tmp Tryz.results39 _ rfl rfl hl) rfl (HQ.out c5 0 (chg s x) _ ⟨HRc.out.1, HRc.out.2, by rw [if_pos rfl]⟩ (HP5.out.low HW0.out (setRow_kb _ _ _) HS1.out) (below_setRow b5.out (by omega) _))
  · have HN : Hid (r ≠ 0) := hr
    have hre : (r == 0) = false := by simpa using hr
    have HP3 : Hid (Ps (Free W0.heap.size w3) w3 (n + 1) c1 s) := (H1.out.box H3.out (Nat.le_refl _)).ps
    have HW0 : Hid (w.heap.size ≤ W0.heap.size) := b0.out.size
    go_wp2_with (first | refine wpList_load_row rfl 37 _ rfl w1.heap.size rfl 37 c1 (0, 0) _ u3 Tryz.underlying37 rfl hi1 ?_ | refine wpList_store_row rfl 37 _ _ rfl (w.heap.size + 1 + 1) c1 rfl rfl 37 zS u2 hi1 z1 a1 ?_)
    have k9 := setRow_heap w3 (w.heap.size + 1 + 1) zS c1 37 (0, 0) u2
    have hl : (loadVar 37 ⟨w.heap.size + 1 + 1, 0, none⟩).run Tryz.prog (w3.setRow (w.heap.size + 1 + 1) c1) = .ok (.agg c1) (w3.setRow (w.heap.size + 1 + 1) c1) := run_loadVar_row _ (w.heap.size + 1 + 1) 37 37 c1 (0, 0) _ k9 Tryz.underlying37 rfl hi1
    exact bodyPost_ret (v := .tuple #[.agg c1, .int .i64 r]) (ret_cell_tmp Tryz.results39 _ rfl rfl hl) rfl (HQ.out c1 r s _ ⟨HRc.out.1, HRc.out.2, by rw [if_neg HN.out]⟩ (HP3.out.low HW0.out (setRow_kb _ _ _) HS1.out) (below_setRow b3.out (by omega) _))
end Go.Proofs.YtakaglfeeipeiaaGreat
namespace Go.Proofs.YtakaglfeeipeiaaGreat
open Go.ChangeShapes Go.WideShapes Go.ChangeAt Go.RowKit
/-- All of these events come. -/
def RunR (n : Nat) : List Ev → Sta → Sta → Prop
  | [], s, s' => s' = s
  | x :: l, s, s' => ∃ s1, StR n s x s1 0 ∧ RunR n l s1 s'
theorem RunR.append {n : Nat} : ∀ {l l' : List Ev} {s t s' : Sta}, RunR n l s t → RunR n l' t s' → RunR n (l ++ l') s s'
  | [], _, s, t, s', h, h' => by cases h; exact h'
  | x :: l, _, s, t, s', ⟨s1, h1, h2⟩, h' => ⟨s1, h1, RunR.append h2 h'⟩
theorem RunR.split {n : Nat} : ∀ {l l' : List Ev} {s s' : Sta}, RunR n (l ++ l') s s' → ∃ t, RunR n l s t ∧ RunR n l' t s'
  | [], _, s, s', h => ⟨s, rfl, h⟩
  | x :: l, _, s, s', ⟨s1, h1, h2⟩ => by
    obtain ⟨t, h3, h4⟩ := RunR.split (l := l) h2
    exact ⟨t, ⟨s1, h1, h3⟩, h4⟩
theorem RunR.det {n : Nat} : ∀ {l : List Ev} {s a b : Sta}, RunR n l s a → RunR n l s b → a = b
  | [], _, _, _, h, h' => h.trans h'.symm
  | x :: l, _, _, _, ⟨s1, h1, h2⟩, ⟨s2, h3, h4⟩ => by
    have := (h1.det h3).2
    subst this
    exact h2.det h4
/-- What a history comes to: the state, how many events were done, why no more. -/
def FoE (n : Nat) (s : Sta) (l : List Ev) (s' : Sta) (k : Nat) (code : Int) : Prop :=
  k ≤ l.length ∧ RunR n (l.take k) s s' ∧ ((k = l.length ∧ code = 0) ∨ ∃ x s2, l[k]? = some x ∧ StR n s' x s2 code ∧ code ≠ 0)
theorem take_succ_some {α : Type} {l : List α} {k : Nat} {x : α} (h : l[k]? = some x) : l.take (k + 1) = l.take k ++ [x] := by
  rw [List.take_add_one, h]
  rfl
theorem FoE.lt_no {n : Nat} {s a b : Sta} {l : List Ev} {k1 k2 : Nat} {c1 c2 : Int} (h1 : FoE n s l a k1 c1) (h2 : FoE n s l b k2 c2) (h : k1 < k2) : False := by
  obtain ⟨a1, a2, a3⟩ := h1
  obtain ⟨b1, b2, _⟩ := h2
  rcases a3 with ⟨e, _⟩ | ⟨x, s2, hx, hs, hc⟩
  · omega
  · have e : l.take k2 = l.take k1 ++ (x :: (l.take k2).drop (k1 + 1)) := by
      have h3 : (l.take k2).take (k1 + 1) = l.take k1 ++ [x] := by rw [List.take_take, Nat.min_eq_left (by omega), take_succ_some hx]
      have h4 := (List.take_append_drop (k1 + 1) (l.take k2)).symm
      rw [h3, List.append_assoc] at h4
      exact h4
    rw [e] at b2
    obtain ⟨t, h3, s3, h4, _⟩ := RunR.split b2
    have := a2.det h3
    subst this
    exact hc (hs.det h4).1
theorem FoE.det {n : Nat} {s a b : Sta} {l : List Ev} {k1 k2 : Nat} {c1 c2 : Int} (h1 : FoE n s l a k1 c1) (h2 : FoE n s l b k2 c2) : a = b ∧ k1 = k2 ∧ c1 = c2 := by
  rcases Nat.lt_trichotomy k1 k2 with h | h | h
  · exact (h1.lt_no h2 h).elim
  · subst h
    obtain ⟨a1, a2, a3⟩ := h1
    obtain ⟨_, b2, b3⟩ := h2
    have e := a2.det b2
    subst e
    refine ⟨rfl, rfl, ?_⟩
    rcases a3 with ⟨e1, e2⟩ | ⟨x, s2, hx, hs, _⟩
    · rcases b3 with ⟨_, e3⟩ | ⟨x, s2, hx, _⟩
      · rw [e2, e3]
      · rw [List.getElem?_eq_none (by omega)] at hx
        cases hx
    · rcases b3 with ⟨e3, _⟩ | ⟨y, s3, hy, hs', _⟩
      · rw [List.getElem?_eq_none (by omega)] at hx
        cases hx
      · rw [hx] at hy
        cases hy
        exact (hs.det hs').1
  · exact (h2.lt_no h1 h).elim
theorem FoE.stop {n : Nat} {s t : Sta} {l l' : List Ev} {m : Nat} {f : Int} (h : FoE n s l t m f) (hf : f ≠ 0) : FoE n s (l ++ l') t m f := by
  obtain ⟨a1, a2, a3⟩ := h
  rcases a3 with ⟨_, e⟩ | ⟨x, s2, hx, hs, hc⟩
  · exact (hf e).elim
  · have hlt := (List.getElem?_eq_some_iff.1 hx).1
    refine ⟨by simp; omega, ?_, .inr ⟨x, s2, ?_, hs, hc⟩⟩
    · rw [List.take_append_of_le_length (by omega)]
      exact a2
    · rw [List.getElem?_append_left hlt]
      exact hx
theorem FoE.more {n : Nat} {s t x : Sta} {l l' : List Ev} {m k : Nat} {g : Int} (h : FoE n s l t m 0) (h' : FoE n t l' x k g) : FoE n s (l ++ l') x (m + k) g := by
  obtain ⟨a1, a2, a3⟩ := h
  have hm : m = l.length := by
    rcases a3 with ⟨e, _⟩ | ⟨_, _, _, _, hc⟩
    · exact e
    · exact (hc rfl).elim
  obtain ⟨b1, b2, b3⟩ := h'
  subst hm
  rw [List.take_length] at a2
  refine ⟨by simp; omega, ?_, ?_⟩
  · rw [List.take_length_add_append]
    exact a2.append b2
  · rcases b3 with ⟨e1, e2⟩ | ⟨y, s2, hy, hs, hc⟩
    · exact .inl ⟨by simp; omega, e2⟩
    · exact .inr ⟨y, s2, by rw [List.getElem?_append_right (by omega), Nat.add_sub_cancel_left]; exact hy, hs, hc⟩
/-- What stays so while events come. -/
structure Sml (n : Nat) (s : Sta) : Prop where
  sm : SmS n s
  lt : s.tm.length ≤ 500
  lu : s.up.length ≤ 500
theorem Sml.chg {n : Nat} {s : Sta} {x : Ev} (h : Sml n s) (hx : SmallW n x.v) (hz : SmallW n zE) (hr : roomB s x = true) (hk : 1 ≤ x.k ∧ x.k ≤ 19) : Sml n (chg s x) := by
  have base : ∀ s' : Sta, s'.inp = s.inp → s'.res = s.res → s'.up = s.up → s'.tm = s.tm → Sml n s' := fun s' a b c d => ⟨⟨by rw [a]; exact h.sm.inp, by rw [b]; exact h.sm.res, fun i u hu => h.sm.up i u (by rw [← c]; exact hu)⟩, by rw [d]; exact h.lt, by rw [c]; exact h.lu⟩
  have ends : ∀ s' : Sta, s'.inp = s.inp → SmallW n s'.res → s'.up = s.up → s'.tm = [] → Sml n s' := fun s' a b c d => ⟨⟨by rw [a]; exact h.sm.inp, b, fun i u hu => h.sm.up i u (by rw [← c]; exact hu)⟩, by rw [d]; simp, by rw [c]; exact h.lu⟩
  have hc : x.k = 1 ∨ x.k = 2 ∨ x.k = 3 ∨ (x.k = 4 ∨ x.k = 5 ∨ x.k = 6) ∨ x.k = 7 ∨ x.k = 8 ∨ x.k = 9 ∨ x.k = 10 ∨ x.k = 11 ∨ x.k = 12 ∨ x.k = 13 ∨ x.k = 14 ∨ x.k = 15 ∨ x.k = 16 ∨ x.k = 17 ∨ x.k = 18 ∨ x.k = 19 := by omega
  rcases hc with k | k | k | k | k | k | k | k | k | k | k | k | k | k | k | k | k
  · rw [chg_1 s x k]
    exact ⟨⟨hx, h.sm.res, h.sm.up⟩, h.lt, h.lu⟩
  · rw [chg_2 s x k]
    exact base _ rfl rfl rfl rfl
  · rw [chg_3 s x k]
    exact base _ rfl rfl rfl rfl
  · rw [chg_from s x k]
    split
    · exact base _ rfl rfl rfl rfl
    · exact base _ rfl rfl rfl rfl
  · rw [chg_7 s x k]
    exact base _ rfl rfl rfl rfl
  · rw [chg_8 s x k]
    exact base _ rfl rfl rfl rfl
  · rw [chg_9 s x k]
    have : s.tm.length < 10 := by simpa [roomB, k] using hr
    refine ⟨⟨h.sm.inp, h.sm.res, h.sm.up⟩, ?_, h.lu⟩
    show (insL _ _ _).length ≤ 500
    rw [insL_length]
    omega
  · rw [chg_10 s x k]
    refine ⟨⟨h.sm.inp, h.sm.res, h.sm.up⟩, ?_, h.lu⟩
    show (delL _ _).length ≤ 500
    have := h.lt
    simp [delL]
    omega
  · rw [chg_11 s x k]
    refine ⟨⟨h.sm.inp, h.sm.res, h.sm.up⟩, ?_, h.lu⟩
    show (delL _ _).length ≤ 500
    have := h.lt
    simp [delL]
    omega
  · rw [chg_12 s x k]
    have : s.up.length < 10 := by simpa [roomB, k] using hr
    refine ⟨⟨h.sm.inp, h.sm.res, fun i u hu => ?_⟩, h.lt, ?_⟩
    · have hu : (insL (fun d => gtS d.s x.s) s.up ⟨x.s, x.v, 1, zE⟩)[i]? = some u := hu
      have hm := List.mem_of_getElem? hu
      simp only [insL, List.mem_append, List.mem_cons] at hm
      rcases hm with hm | rfl | hm
      · obtain ⟨j, hj⟩ := List.getElem?_of_mem (List.mem_of_mem_take hm)
        exact h.sm.up j u hj
      · exact ⟨hx, hz⟩
      · obtain ⟨j, hj⟩ := List.getElem?_of_mem (List.mem_of_mem_drop hm)
        exact h.sm.up j u hj
    · show (insL _ _ _).length ≤ 500
      rw [insL_length]
      omega
  · rw [chg_13 s x k]
    refine ⟨⟨h.sm.inp, h.sm.res, fun i u hu => ?_⟩, h.lt, ?_⟩
    · have hu : (s.up.modify (waAt s x.s).toNat (fun u => { u with g := 2, o := x.v }))[i]? = some u := hu
      rw [List.getElem?_modify] at hu
      cases ho : s.up[i]? with
      | none => rw [ho] at hu; cases hu
      | some o =>
        rw [ho] at hu
        have hs := h.sm.up i o ho
        by_cases e : (waAt s x.s).toNat = i
        · have : u = { o with g := 2, o := x.v } := by simpa [e, eq_comm] using hu
          subst this
          exact ⟨hs.1, hx⟩
        · have : u = o := by simpa [e, eq_comm] using hu
          subst this
          exact hs
    · show (s.up.modify _ _).length ≤ 500
      simp
      exact h.lu
  · rw [chg_14 s x k]
    exact base _ rfl rfl rfl rfl
  · rw [chg_15 s x k]
    exact ends _ rfl hx rfl rfl
  · rw [chg_16 s x k]
    exact ends _ rfl h.sm.res rfl rfl
  · rw [chg_17 s x k]
    exact ends _ rfl h.sm.res rfl rfl
  · rw [chg_18 s x k]
    exact ends _ rfl h.sm.res rfl rfl
  · rw [chg_19 s x k]
    exact ends _ rfl h.sm.res rfl rfl
end Go.Proofs.YtakaglfeeipeiaaGreat
namespace Go.Proofs.YtakaglfeeipeiaaGreat
open Go.ChangeShapes Go.WideShapes Go.ChangeAt Go.RowKit
/-- Events one behind the other, in blocks below lo. -/
def IsL (lo : Nat) (w : World) (n : Nat) (a : Option Addr) (l : List Ev) : Prop :=
  ∃ rows : List (Array Value), rows.length = l.length ∧ RowS (fun b => b < lo) w a 13 rows ∧ ∀ (i : Nat) r e, rows[i]? = some r → l[i]? = some e → IsEv (IsP (fun b => b < lo) w n) r e
theorem IsL.below {lo : Nat} {w w' : World} {n : Nat} {a : Option Addr} {l : List Ev} (h : IsL lo w n a l) (hb : Below lo w w') : IsL lo w' n a l := by
  obtain ⟨rows, h1, h2, h3⟩ := h
  exact ⟨rows, h1, h2.keep (fun _ _ h => h) (fun b _ hl => hb.block b hl) (by decide), fun i r e hr he => (h3 i r e hr he).map fun v t hv => hv.keep (fun _ _ h => h) (fun b _ hl => hb.block b hl)⟩
/-- Events that are not too great. -/
def SmL (n : Nat) (l : List Ev) : Prop := ∀ (i : Nat) e, l[i]? = some e → SmallW n e.v ∧ e.c < 18446744073709551616
/-- What the closure does: the box B7 is cs, the box B8 is one more. -/
def TlP (B7 B8 : Nat) (cs : Array Value) (j : Int) (w : World) (e : Ending) (w' : World) : Prop :=
  e = .returned (.tuple #[]) ∧ w'.heap[B7]? = some (.cells cs 37 (0, 0)) ∧ w'.heap[B8]? = some (.cells #[.int .i64 (wrap64 (j + 1))] 3 (0, 0)) ∧ w.heap.size ≤ w'.heap.size ∧ w'.os = w.os ∧ w'.tape = w.tape ∧ w'.output = w.output ∧ ∀ b, b < w.heap.size → b ≠ B7 → b ≠ B8 → w'.heap[b]? = w.heap[b]?
set_option maxHeartbeats 2000000 in
set_option maxRecDepth 100000 in
theorem tell_calls (B7 B8 : Nat) (cs c7 : Array Value) (j : Int) (w : World) (hs : cs.size = 31) (h1 : ∀ (k : Nat) (v : Value), cs[k]? = some v → v.oneCell' = true) (h7 : w.heap[B7]? = some (.cells c7 37 (0, 0))) (hs7 : c7.size = 31) (h8 : w.heap[B8]? = some (.cells #[.int .i64 j] 3 (0, 0))) (hne : B7 ≠ B8) :
    Calls Tryz.prog 23 #[.agg cs, .pointer (some ⟨B7, 0, none⟩), .pointer (some ⟨B8, 0, none⟩)] w (TlP B7 B8 cs j w) := by
  have hl7 : B7 < w.heap.size := (Array.getElem?_eq_some_iff.1 h7).1
  have hl8 : B8 < w.heap.size := (Array.getElem?_eq_some_iff.1 h8).1
  have hi := info33s cs hs
  have hz : c7.size = cs.size := by rw [hs7, hs]
  have ha := all_one h1
  have r3 : (w.alloc (.cells cs 37)).heap[w.heap.size]? = some (.cells cs 37 (0, 0)) := heap_alloc_last w _
  have r7 : (w.alloc (.cells cs 37)).heap[B7]? = some (.cells c7 37 (0, 0)) := row_below (bel1 _ _) h7
  have r8 : (w.alloc (.cells cs 37)).heap[B8]? = some (.cells #[.int .i64 j] 3 (0, 0)) := row_below (bel1 _ _) h8
  have q7 := setRow_heap (w.alloc (.cells cs 37)) B7 c7 cs 37 (0, 0) r7
  have q8 : ((w.alloc (.cells cs 37)).setRow B7 cs).heap[B8]? = some (.cells #[.int .i64 j] 3 (0, 0)) := by rw [setRow_other _ _ _ _ (Ne.symm hne)]; exact r8
  have c8 : ((w.alloc (.cells cs 37)).setRow B7 cs).cell? ⟨B8, 0, none⟩ = some (.int .i64 j) := row_cell q8 rfl
  have f8 : ((w.alloc (.cells cs 37)).setRow B7 cs).frozen? ⟨B8, 0, none⟩ = false := frozen_of_row _ B8 0 _ 3 q8
  have HQ : Hid (TlP B7 B8 cs j w (.returned (.tuple #[])) (((w.alloc (.cells cs 37)).setRow B7 cs).setCell ⟨B8, 0, none⟩ (.int .i64 (wrap64 (j + 1))))) := by
    have k1 := KB.of_below (g := B7) (bel1 w (.cells cs 37))
    have k2 := setRow_kb (w.alloc (.cells cs 37)) B7 cs
    have k3 := KB.setCell B8 ((w.alloc (.cells cs 37)).setRow B7 cs) 0 (.int .i64 (wrap64 (j + 1)))
    have k12 := k1.trans k2
    have hsz := k12.2.2.2.1
    refine ⟨rfl, row_kb q7 k3 hne, heap_setCell_same _ B8 0 _ 3 _ q8, Nat.le_trans k12.2.2.2.1 k3.2.2.2.1, rfl, rfl, rfl, fun b hb h7 h8 => (ne_blk k3 (by omega) h8).trans (ne_blk k12 hb h7)⟩
  generalize TlP B7 B8 cs j w = Q at HQ ⊢
  clear h7 h8 hs hs7 h1 q7 q8 r8 hne hl7 hl8
  go_enter Tryz.func23, Tryz.ntmps23
  go_wp2_with (first | refine wpList_load_row rfl 37 _ rfl w.heap.size rfl 37 cs (0, 0) _ r3 Tryz.underlying37 rfl hi ?_ | refine wpList_store_row rfl 37 _ _ rfl B7 cs rfl rfl 37 c7 r7 hi hz ha ?_)
  go_end0
  exact HQ.out
/-- Where what a state holds may lie while events come. -/
def Okf (D : Nat → Prop) (B7 B8 : Nat) (b : Nat) : Prop := b ≠ B7 ∧ b ≠ B8 ∧ D b
/-- What follow answers. -/
def FwP (lo : Nat) (D : Nat → Prop) (B7 B8 n : Nat) (s : Sta) (l : List Ev) (w : World) (e : Ending) (w' : World) : Prop :=
  ∃ (code : Int) (s' : Sta) (k : Nat) (c7 : Array Value), e = .returned (.int .i64 code) ∧ FoE (n + 1) s l s' k code ∧ w'.heap[B7]? = some (.cells c7 37 (0, 0)) ∧ Ps (Okf D B7 B8) w' (n + 1) c7 s' ∧ Sml (n + 1) s' ∧ w'.heap[B8]? = some (.cells #[.int .i64 (k : Int)] 3 (0, 0)) ∧ Below lo w w'
/-- Behind j events. -/
structure FwI (lo : Nat) (D : Nat → Prop) (B7 B8 B3 n : Nat) (s : Sta) (l : List Ev) (w wr : World) (j : Nat) : Prop where
  bel : Below lo w wr
  st : ∃ (s' : Sta) (c3 c7 : Array Value), RunR (n + 1) (l.take j) s s' ∧ Sml (n + 1) s' ∧ wr.heap[B3]? = some (.cells c3 37 (0, 0)) ∧ wr.heap[B7]? = some (.cells c7 37 (0, 0)) ∧ Ps (fun b => Okf D B7 B8 b ∧ b ≠ B3) wr (n + 1) c3 s' ∧ Ps (fun b => Okf D B7 B8 b ∧ b ≠ B3) wr (n + 1) c7 s'
  cnt : wr.heap[B8]? = some (.cells #[.int .i64 (j : Int)] 3 (0, 0))
theorem Ps.okk {ok ok' : Nat → Prop} {w w' : World} {n : Nat} {cs : Array Value} {s : Sta} (h : Ps ok w n cs s) (hok : ∀ b, b < w.heap.size → ok b → ok' b) (hb : ∀ b, b < w.heap.size → ok b → w'.heap[b]? = w.heap[b]?) : Ps ok' w' n cs s := h.keep hok hb
set_option maxHeartbeats 4000000 in
set_option maxRecDepth 100000 in
theorem follow_calls (lo : Nat) (D : Nat → Prop) (B7 B8 n : Nat) (cs c7 : Array Value) (s : Sta) (a : Option Addr) (c : Nat) (l : List Ev) (w : World) (h : Ps (Okf D B7 B8) w (n + 1) cs s) (hm : Sml (n + 1) s) (h7 : w.heap[B7]? = some (.cells c7 37 (0, 0))) (hp7 : Ps (Okf D B7 B8) w (n + 1) c7 s) (h8 : w.heap[B8]? = some (.cells #[.int .i64 0] 3 (0, 0))) (hne : B7 ≠ B8) (hl7 : lo ≤ B7) (hl8 : lo ≤ B8) (hD : ∀ b, w.heap.size ≤ b → D b)
    (hL : IsL lo w (n + 1) a l) (hS : SmL (n + 1) l) (hll : l.length ≤ 1000) (hz : SmallW (n + 1) zE) :
    Calls Tryz.prog 22 #[.agg cs, .slice a l.length c, .func (.func 23) #[] #[.pointer (some ⟨B7, 0, none⟩), .pointer (some ⟨B8, 0, none⟩)]] w (FwP lo D B7 B8 n s l w) := by
  have HQ : Hid (∀ code s' k c7 w', FoE (n + 1) s l s' k code → w'.heap[B7]? = some (.cells c7 37 (0, 0)) → Ps (Okf D B7 B8) w' (n + 1) c7 s' → Sml (n + 1) s' → w'.heap[B8]? = some (.cells #[.int .i64 (k : Int)] 3 (0, 0)) → Below lo w w' → FwP lo D B7 B8 n s l w (.returned (.int .i64 code)) w') := fun code s' k c7 w' a1 a2 a3 a4 a5 a6 => ⟨code, s', k, c7, rfl, a1, a2, a3, a4, a5, a6⟩
  generalize FwP lo D B7 B8 n s l w = Q at HQ ⊢
  have hlw7 : B7 < w.heap.size := (Array.getElem?_eq_some_iff.1 h7).1
  have hlw8 : B8 < w.heap.size := (Array.getElem?_eq_some_iff.1 h8).1
  have HI0 : Hid (FwI lo D B7 B8 w.heap.size n s l w (w.alloc (.cells cs 37)) 0) := ⟨(Below.refl _ w).alloc (by omega) _, ⟨s, cs, c7, rfl, hm, heap_alloc_last w _, row_below (bel1 _ _) h7, h.okk (fun b hb ho => ⟨ho, by omega⟩) (fun b hb _ => (bel1 w (.cells cs 37)).block b hb), hp7.okk (fun b hb ho => ⟨ho, by omega⟩) (fun b hb _ => (bel1 w (.cells cs 37)).block b hb)⟩, row_below (bel1 _ _) h8⟩
  have HF : Hid (B7 ≠ B8 ∧ lo ≤ B7 ∧ lo ≤ B8 ∧ B7 < w.heap.size ∧ B8 < w.heap.size ∧ ∀ b, w.heap.size ≤ b → D b) := ⟨hne, hl7, hl8, hlw7, hlw8, hD⟩
  have HL : Hid (IsL lo w (n + 1) a l ∧ SmL (n + 1) l ∧ l.length ≤ 1000 ∧ SmallW (n + 1) zE) := ⟨hL, hS, hll, hz⟩
  clear h hm h7 hp7 h8 hne hl7 hl8 hL hS hll hz hlw7 hlw8 hD
  generalize hB3 : w.heap.size = B3 at HI0 HF
  have HB3 : Hid (w.heap.size = B3) := hB3
  clear hB3
  go_enter Tryz.func22, Tryz.ntmps22
  go_wp2_with fail
  rw [HB3.out]
  go_loopw [10, 13] (fun _ i wr => ∃ j : Nat, j ≤ l.length ∧ i = .int .i64 (j : Int) ∧ Hid (FwI lo D B7 B8 B3 n s l w wr j)) (fun _ i _ => l.length - (intOf i).toNat)
  case atStart => exact ⟨0, Nat.zero_le _, rfl, HI0⟩
  case round =>
    obtain ⟨j, hj, rfl, HI⟩ := hrel
    by_cases hlt : j < l.length
    · obtain ⟨s', c3, c7, hrun, hsm, hr3, hr7, hp3, hp7⟩ := HI.out.st
      obtain ⟨x, hx⟩ : ∃ x, l[j]? = some x := ⟨_, List.getElem?_eq_getElem hlt⟩
      obtain ⟨rows, q1, q2, q3⟩ := HL.out.1.below HI.out.bel
      obtain ⟨r, hr⟩ : ∃ r, rows[j]? = some r := ⟨_, List.getElem?_eq_getElem (by omega)⟩
      obtain ⟨hsz, h1r, B, o, rfl, hBlo, hlies⟩ := q2 j r hr
      have hIE := q3 j r x hr hx
      have hi45 : (Tryz.prog.info? 44).map (·.size) = some r.toList.length := by rw [Array.length_toList]; exact info46s r hsz
      have hi45' := info46s r hsz
      have hi3 := info33s c3 hp3.size
      have hrng := lies_range hlies
      have ho45 : zEv.size = r.size := hsz.symm
      have h145 := all_one h1r
      have hz45 : (wr.alloc (.cells zEv 44)).heap[wr.heap.size]? = some (.cells zEv 44 (0, 0)) := heap_alloc_new wr _
      have hjl : (j : Int) < (l.length : Int) := by omega
      have HW1 : Hid (wrap64 ((j : Int) + 1) = ((j + 1 : Nat) : Int)) := wr1 hlt (by have := HL.out.2.2.1; omega)
      have HR : Hid (RunR (n + 1) (l.take j) s s' ∧ Sml (n + 1) s') := ⟨hrun, hsm⟩
      have Hx : Hid (l[j]? = some x) := hx
      have HIE : Hid (IsEv (IsP (fun b => b < lo) wr (n + 1)) r x) := hIE
      have HP3 : Hid (Ps (fun b => Okf D B7 B8 b ∧ b ≠ B3) wr (n + 1) c3 s') := hp3
      have HP7 : Hid (Ps (fun b => Okf D B7 B8 b ∧ b ≠ B3) wr (n + 1) c7 s') := hp7
      have HR3 : Hid (wr.heap[B3]? = some (.cells c3 37 (0, 0))) := hr3
      have HR7 : Hid (wr.heap[B7]? = some (.cells c7 37 (0, 0))) := hr7
      clear hrun hsm hx q1 q2 q3 hr hIE hp3 hp7 hlies h1r hsz hBlo hr3 hr7
      go_upto_region 4 with (first
        | refine wpList_load_mid rfl 44 _ rfl B (o + j * 13) rfl r.toList _ hrng Tryz.underlying44 rfl hi45 ?_
        | refine wpList_store_row rfl 44 _ _ rfl wr.heap.size r rfl rfl 44 zEv hz45 hi45' ho45 h145 ?_)
      rw [World.setRow_alloc_new]
      have hba := bel1 wr (.cells r 44)
      have ra : (wr.alloc (.cells r 44)).heap[wr.heap.size]? = some (.cells r 44 (0, 0)) := heap_alloc_last wr _
      have r3 : (wr.alloc (.cells r 44)).heap[B3]? = some (.cells c3 37 (0, 0)) := row_below hba HR3.out
      have KS := step_calls n c3 r s' x (wr.alloc (.cells r 44)) (HP3.out.rs.below hba) (HIE.out.map fun v t h => h.is.below hba) (HL.out.2.1 j x Hx.out).2 HR.out.2.sm (HL.out.2.1 j x Hx.out).1 HR.out.2.lt HR.out.2.lu
      have HKS : Hid (Calls Tryz.prog 39 #[.agg c3, .agg r] (wr.alloc (.cells r 44)) (StG n s' x (wr.alloc (.cells r 44)))) := KS
      have HBa : Hid (Below wr.heap.size wr (wr.alloc (.cells r 44))) := hba
      have HZa : Hid (wr.heap.size < (wr.alloc (.cells r 44)).heap.size) := by show _ < _; simp
      clear KS hba hrng hz45 hi45
      generalize wr.alloc (.cells r 44) = Wa at ra r3 HKS HBa HZa ⊢
      go_wp2_with (first
        | refine wpList_load_row rfl 37 _ rfl B3 rfl 37 c3 (0, 0) _ r3 Tryz.underlying37 rfl hi3 ?_
        | refine wpList_load_row rfl 44 _ rfl wr.heap.size rfl 44 r (0, 0) _ ra Tryz.underlying44 rfl hi45' ?_)
      refine HKS.out.mono ?_
      rintro e' w1 ⟨⟨c2, code, s2, rfl, hst, hps⟩, hb1⟩
      have hi2 := info33s c2 hps.size
      have z2 : zS.size = c2.size := hps.size.symm
      have a2 := all_one hps.one
      have n1 : (w1.alloc (.cells zS 37)).heap[w1.heap.size]? = some (.cells zS 37 (0, 0)) := heap_alloc_new w1 _
      have HB1 : Hid (Below wr.heap.size wr w1) := bel2 HBa.out hb1
      have HST : Hid (StR (n + 1) s' x s2 code) := hst
      have HPS : Hid (Ps (Free Wa.heap.size w1) w1 (n + 1) c2 s2) := hps
      have HZ1 : Hid (Wa.heap.size ≤ w1.heap.size) := hb1.size
      clear hst hps hb1 ra r3 HKS hi3 hi45' ho45 h145
      go_upto_region 5 with (refine wpList_store_row rfl 37 _ _ rfl w1.heap.size c2 rfl rfl 37 zS n1 hi2 z2 a2 ?_)
      rw [World.setRow_alloc_new]
      have hb2 := bel1 w1 (.cells c2 37)
      have r9 : (w1.alloc (.cells c2 37)).heap[w1.heap.size]? = some (.cells c2 37 (0, 0)) := heap_alloc_last w1 _
      have HB2 : Hid (Below wr.heap.size wr (w1.alloc (.cells c2 37))) := bel2 HB1.out hb2
      have HB12 : Hid (Below w1.heap.size w1 (w1.alloc (.cells c2 37))) := hb2
      have HZ2 : Hid (w1.heap.size < (w1.alloc (.cells c2 37)).heap.size) := by show _ < _; simp
      clear hb2 n1
      generalize w1.alloc (.cells c2 37) = W2 at r9 HB2 HB12 HZ2 ⊢
      have hlr3 : B3 < wr.heap.size := (Array.getElem?_eq_some_iff.1 HR3.out).1
      have HLr : Hid (B3 < wr.heap.size) := hlr3
      have q3 := row_below HB2.out HR3.out
      have q7 := row_below HB2.out HR7.out
      have q8 := row_below HB2.out HI.out.cnt
      have HBl : Hid (Below lo w W2) := HI.out.bel.trans (HB2.out.mono (by have := HF.out; omega))
      have HQ3 : Hid (W2.heap[B3]? = some (.cells c3 37 (0, 0))) := q3
      have HQ7 : Hid (W2.heap[B7]? = some (.cells c7 37 (0, 0))) := q7
      have HQ8 : Hid (W2.heap[B8]? = some (.cells #[.int .i64 (j : Int)] 3 (0, 0))) := q8
      clear q3 q7 q8 hlr3
      by_cases hc : code = 0
      · subst hc
        have hm : MayE (n + 1) x := by
          by_cases hm : MayE (n + 1) x
          · exact hm
          · have := HST.out.2.1 hm
            omega
        have hs2 : s2 = chg s' x := by have := HST.out.2.2; rwa [if_pos rfl] at this
        have hrc := refC_fits (HST.out.1 hm).symm
        have HSm : Hid (Sml (n + 1) s2) := by
          show Sml (n + 1) s2
          rw [hs2]
          exact HR.out.2.chg (HL.out.2.1 j x Hx.out).1 HL.out.2.2.2 hrc.2.1 hm.kind
        have KT := tell_calls B7 B8 c2 c7 (j : Int) W2 HPS.out.size HPS.out.one HQ7.out HP7.out.size HQ8.out HF.out.1
        have HKT : Hid (Calls Tryz.prog 23 #[.agg c2, .pointer (some ⟨B7, 0, none⟩), .pointer (some ⟨B8, 0, none⟩)] W2 (TlP B7 B8 c2 (j : Int) W2)) := KT
        clear hm hs2 hrc KT
        go_wp2_with (refine wpList_load_row rfl 37 _ rfl w1.heap.size rfl 37 c2 (0, 0) _ r9 Tryz.underlying37 rfl hi2 ?_)
        refine HKT.out.mono ?_
        rintro e3 w3 ⟨rfl, t7, t8, tsz, tos, ttp, tout, tk⟩
        have f1 := HF.out
        have f2 := HLr.out
        have f3 := HZa.out
        have f4 := HZ1.out
        have f5 := HZ2.out
        have f6 := HB3.out
        have f7 := HB2.out.size
        have t9 : w3.heap[w1.heap.size]? = some (.cells c2 37 (0, 0)) := (tk _ f5 (by omega) (by omega)).trans r9
        have t3 : w3.heap[B3]? = some (.cells c3 37 (0, 0)) := (tk _ (by omega) (by omega) (by omega)).trans HQ3.out
        have hz3 : c3.size = c2.size := by rw [HP3.out.size, HPS.out.size]
        have hbl : Below lo W2 w3 := ⟨tos, ttp, tout, tsz, fun b hb => tk b (by omega) (by omega) (by omega)⟩
        have HFw : Hid (FwI lo D B7 B8 B3 n s l w (w3.setRow B3 c2) (j + 1)) := by
          have hk := setRow_kb w3 B3 c2
          have keep : ∀ b, b < w1.heap.size → Free Wa.heap.size w1 b → (w3.setRow B3 c2).heap[b]? = w1.heap[b]? := fun b hb hf => by
            have := hf.1
            rw [ne_blk hk (by omega) (by omega), tk b (by omega) (by omega) (by omega), HB12.out.block b hb]
          have hps : Ps (fun b => Okf D B7 B8 b ∧ b ≠ B3) (w3.setRow B3 c2) (n + 1) c2 s2 := HPS.out.okk (fun b hb hf => by have := hf.1; exact ⟨⟨by omega, by omega, HF.out.2.2.2.2.2 b (by omega)⟩, by omega⟩) keep
          refine ⟨(HBl.out.trans hbl).trans (hk.below (by omega) (by omega)), ⟨s2, c2, c2, ?_, HSm.out, setRow_heap w3 B3 c3 c2 37 (0, 0) t3, (setRow_other _ _ _ _ (by omega)).trans t7, hps, hps⟩, ?_⟩
          · rw [take_succ_some Hx.out]
            exact HR.out.1.append ⟨s2, HST.out, rfl⟩
          · rw [setRow_other _ _ _ _ (by omega), t8, HW1.out]
        clear t7 t8 tsz tos ttp tout tk f1 f2 f3 f4 f5 f6 f7 hbl
        go_wp2_with (first
          | refine wpList_load_row rfl 37 _ rfl w1.heap.size rfl 37 c2 (0, 0) _ t9 Tryz.underlying37 rfl hi2 ?_
          | refine wpList_store_row rfl 37 _ _ rfl B3 c2 rfl rfl 37 c3 t3 hi2 hz3 a2 ?_)
        exact ⟨⟨j + 1, hlt, by rw [HW1.out], HFw⟩, meas hlt HW1.out⟩
      · have HC : Hid (code ≠ 0) := hc
        have hce : (code == 0) = false := by simpa using hc
        have hcn : (code != 0) = true := by simpa using hc
        go_wp2_with fail
        exact HQ.out code s' j c7 _ ⟨hj, HR.out.1, .inr ⟨x, s2, Hx.out, HST.out, HC.out⟩⟩ HQ7.out (HP7.out.okk (fun b _ h => h.1) (fun b hb _ => HB2.out.block b hb)) HR.out.2 HQ8.out HBl.out
    · obtain rfl : j = l.length := by omega
      obtain ⟨s', c3, c7, hrun, hsm, hr3, hr7, hp3, hp7⟩ := HI.out.st
      have HX : Hid (Q (.returned (.int .i64 0)) wr) := HQ.out 0 s' l.length c7 wr ⟨Nat.le_refl _, hrun, .inl ⟨rfl, rfl⟩⟩ hr7 (hp7.okk (fun b _ h => h.1) (fun _ _ _ => rfl)) hsm HI.out.cnt HI.out.bel
      clear hrun hsm hr3 hr7 hp3 hp7
      go_wp2_with fail
      exact HX.out
end Go.Proofs.YtakaglfeeipeiaaGreat
namespace Go.Proofs.YtakaglfeeipeiaaGreat
open Go.ChangeShapes Go.WideShapes Go.ChangeAt Go.RowKit
theorem Is.lt {w : World} : ∀ {n : Nat} {v : Value} {t : Tv}, Is w n v t → IsP (fun b => b < w.heap.size) w n v t
  | 0, _, _, h => h
  | n + 1, v, .mk k x b s l, ⟨a, c, hv, hf, hr⟩ => ⟨a, c, hv, hf, fun i t ht => by
      obtain ⟨B, o, c0, c1, c2, c3, c4, ha, h5, hi⟩ := hr i t ht
      exact ⟨B, o, c0, c1, c2, c3, c4, ha, World.block_lt_of_cell? w _ h5.1, h5, hi.lt⟩⟩
theorem Rs.lt {w : World} {n : Nat} {cs : Array Value} {s : Sta} (h : Rs w n cs s) : Ps (fun b => b < w.heap.size) w n cs s := IsS.map (fun _ hB _ => hB) (fun _ _ _ hv => hv) (fun _ _ h => h.lt) h
theorem IsL.mono {lo lo' : Nat} {w : World} {n : Nat} {a : Option Addr} {l : List Ev} (h : IsL lo w n a l) (hl : lo ≤ lo') : IsL lo' w n a l := by
  obtain ⟨rows, h1, h2, h3⟩ := h
  exact ⟨rows, h1, h2.keep (fun _ _ h => Nat.lt_of_lt_of_le h hl) (fun _ _ _ => rfl) (by decide), fun i r e hr he => (h3 i r e hr he).map fun v t hv => hv.keep (fun _ _ h => Nat.lt_of_lt_of_le h hl) (fun _ _ _ => rfl)⟩
theorem ret_cell_tmp2 {fn : Func} {p q r : Tmp} {ty : TypeId} (h : fn.results = #[.cell p ty, .tmp q, .tmp r]) (tmps : Array Value) {w : World} {v u x : Value} {a : Addr} (hp : tmps.getD p undef = .pointer (some a)) (hq : tmps.getD q undef = u) (hr : tmps.getD r undef = x) (hl : (loadVar ty a).run Tryz.prog w = .ok v w) : (results fn tmps).run Tryz.prog w = .ok (.tuple #[v, u, x]) w := by
  have hp' : tmps[p]?.getD undef = .pointer (some a) := by simpa using hp
  have hq' : tmps[q]?.getD undef = u := by simpa using hq
  have hr' : tmps[r]?.getD undef = x := by simpa using hr
  simp [results, h, hp', hq', hr', asAddr, hl]
/-- What Extend answers. -/
def ExP (D : Nat → Prop) (n : Nat) (s : Sta) (l : List Ev) (w : World) (e : Ending) (w' : World) : Prop :=
  (∃ (cs' : Array Value) (s' : Sta) (k : Nat) (code : Int), e = .returned (.tuple #[.agg cs', .int .i64 (k : Int), .int .i64 code]) ∧ FoE (n + 1) s l s' k code ∧ Ps D w' (n + 1) cs' s' ∧ Sml (n + 1) s') ∧ Below w.heap.size w w'
set_option maxHeartbeats 4000000 in
set_option maxRecDepth 100000 in
theorem extend_calls (D : Nat → Prop) (n : Nat) (cs : Array Value) (s : Sta) (a : Option Addr) (c : Nat) (l : List Ev) (w : World) (h : Ps D w (n + 1) cs s) (hD : ∀ b, w.heap.size ≤ b → D b) (hm : Sml (n + 1) s) (hL : IsL w.heap.size w (n + 1) a l) (hS : SmL (n + 1) l) (hll : l.length ≤ 1000) (hz : SmallW (n + 1) zE) :
    Calls Tryz.prog 11 #[.agg cs, .slice a l.length c] w (ExP D n s l w) := by
  have KC : Hid (∀ W, Below w.heap.size w W → Calls Tryz.prog 21 #[.agg cs] W (ClS (n + 1) W s)) := fun W hB => sclone_calls (n + 1) cs s W (h.rs.below hB) hm.sm (by have := hm.lt; omega) (by have := hm.lu; omega)
  have hi := info33s cs h.size
  have HQ : Hid (∀ cs' s' (k : Nat) code w', FoE (n + 1) s l s' k code → Ps D w' (n + 1) cs' s' → Sml (n + 1) s' → Below w.heap.size w w' → ExP D n s l w (.returned (.tuple #[.agg cs', .int .i64 (k : Int), .int .i64 code])) w') := fun cs' s' k code w' a1 a2 a3 a4 => ⟨⟨cs', s', k, code, rfl, a1, a2, a3⟩, a4⟩
  generalize ExP D n s l w = Q at HQ ⊢
  have HD : Hid (∀ b, w.heap.size ≤ b → D b) := hD
  have HA : Hid (Ps D w (n + 1) cs s ∧ Sml (n + 1) s ∧ IsL w.heap.size w (n + 1) a l ∧ SmL (n + 1) l ∧ l.length ≤ 1000 ∧ SmallW (n + 1) zE) := ⟨h, hm, hL, hS, hll, hz⟩
  clear h hm hL hS hll hz hD
  go_enter Tryz.func11, Tryz.ntmps11
  have b0 : Hid (Below w.heap.size w ((w.alloc (.cells cs 37)).alloc (.cells zS 37))) := bel2 (bel1 _ _) (bel1 _ _)
  have r0 : ((w.alloc (.cells cs 37)).alloc (.cells zS 37)).heap[w.heap.size]? = some (.cells cs 37 (0, 0)) := heap_alloc2_old _ _ _
  have r1 : ((w.alloc (.cells cs 37)).alloc (.cells zS 37)).heap[w.heap.size + 1]? = some (.cells zS 37 (0, 0)) := heap_alloc2_new _ _ _
  go_upto_region 1 with fail
  change Code.wp _ _ _ _ ((w.alloc (.cells cs 37)).alloc (.cells zS 37))
  generalize (w.alloc (.cells cs 37)).alloc (.cells zS 37) = W0 at b0 r0 r1 ⊢
  go_wp2_with (refine wpList_load_row rfl 37 _ rfl w.heap.size rfl 37 cs (0, 0) _ r0 Tryz.underlying37 rfl hi ?_)
  refine (KC.out _ b0.out).mono ?_
  rintro e w1 ⟨⟨c1, rfl, h1⟩, hb⟩
  have hi1 := info33s c1 h1.ig.size
  have z1 : zS.size = c1.size := h1.ig.size.symm
  have a1 := all_one h1.ps.one
  have s0 := row_below hb r0
  have s1 := row_below hb r1
  have HS1 : Hid (w.heap.size + 1 < W0.heap.size) := (Array.getElem?_eq_some_iff.1 r1).1
  have HL1 : Hid (W0.heap.size ≤ w1.heap.size) := hb.size
  have b1 : Hid (Below w.heap.size w w1) := bel2 b0.out hb
  have H1 : Hid (Ps (Free W0.heap.size w1) w1 (n + 1) c1 s) := h1.ps
  have n1 : ((w1.alloc (.cells zS 37)).alloc (.cells #[.int .i64 0] 3)).heap[w1.heap.size]? = some (.cells zS 37 (0, 0)) := heap_alloc2_old _ _ _
  have n2 : ((w1.alloc (.cells zS 37)).alloc (.cells #[.int .i64 0] 3)).heap[w1.heap.size + 1]? = some (.cells #[.int .i64 0] 3 (0, 0)) := heap_alloc2_new _ _ _
  have m1 := setRow_heap _ w1.heap.size zS c1 37 (0, 0) n1
  have m2 : (((w1.alloc (.cells zS 37)).alloc (.cells #[.int .i64 0] 3)).setRow w1.heap.size c1).heap[w1.heap.size + 1]? = some (.cells #[.int .i64 0] 3 (0, 0)) := (setRow_other _ _ _ _ (by omega)).trans n2
  have x2 : (((w1.alloc (.cells zS 37)).alloc (.cells #[.int .i64 0] 3)).setRow w1.heap.size c1).cell? ⟨w1.heap.size + 1, 0, none⟩ = some (.int .i64 0) := row_cell m2 rfl
  have xf : (((w1.alloc (.cells zS 37)).alloc (.cells #[.int .i64 0] 3)).setRow w1.heap.size c1).frozen? ⟨w1.heap.size + 1, 0, none⟩ = false := frozen_of_row _ _ 0 _ 3 m2
  have p7 : ((((w1.alloc (.cells zS 37)).alloc (.cells #[.int .i64 0] 3)).setRow w1.heap.size c1).setCell ⟨w1.heap.size + 1, 0, none⟩ (.int .i64 0)).heap[w1.heap.size]? = some (.cells c1 37 (0, 0)) := row_kb m1 (KB.setCell (w1.heap.size + 1) _ 0 _) (by omega)
  have p8 : ((((w1.alloc (.cells zS 37)).alloc (.cells #[.int .i64 0] 3)).setRow w1.heap.size c1).setCell ⟨w1.heap.size + 1, 0, none⟩ (.int .i64 0)).heap[w1.heap.size + 1]? = some (.cells #[.int .i64 0] 3 (0, 0)) := heap_setCell_same _ _ 0 _ 3 _ m2
  have pb : Below w1.heap.size w1 ((((w1.alloc (.cells zS 37)).alloc (.cells #[.int .i64 0] 3)).setRow w1.heap.size c1).setCell ⟨w1.heap.size + 1, 0, none⟩ (.int .i64 0)) := (below_setRow (bel2 (bel1 _ _) (bel1 _ _)) (Nat.le_refl _) c1).trans ((KB.setCell (w1.heap.size + 1) _ 0 _).below (by omega) (by simp [setRow_size]; omega))
  simp only [zS] at x2 xf
  clear hb r0 r1 h1 KC m1 m2 n2
  go_upto_region 2 with (refine wpList_store_row rfl 37 _ _ rfl w1.heap.size c1 rfl rfl 37 zS n1 hi1 z1 a1 ?_)
  change Code.wp _ _ _ _ ((((w1.alloc (.cells zS 37)).alloc (.cells #[.int .i64 0] 3)).setRow w1.heap.size c1).setCell ⟨w1.heap.size + 1, 0, none⟩ (.int .i64 0))
  clear x2 xf n1
  generalize (((w1.alloc (.cells zS 37)).alloc (.cells #[.int .i64 0] 3)).setRow w1.heap.size c1).setCell ⟨w1.heap.size + 1, 0, none⟩ (.int .i64 0) = W3 at p7 p8 pb ⊢
  have t0 := row_below pb s0
  have t1 := row_below pb s1
  have B3 : Hid (Below w.heap.size w W3) := bel2 b1.out pb
  have HG : Hid (w.heap.size + 1 < w1.heap.size) := Nat.lt_of_lt_of_le HS1.out HL1.out
  have hA := HA.out
  have hsz3 := pb.size
  have KF := follow_calls W0.heap.size (fun b => D b ∧ b ≠ w.heap.size + 1) w1.heap.size (w1.heap.size + 1) n cs c1 s a c l W3 (hA.1.okk (fun b hb hd => ⟨by have := HG.out; omega, by have := HG.out; omega, hd, by omega⟩) (fun b hb _ => B3.out.block b hb)) hA.2.1 p7 (H1.out.okk (fun b hb hf => ⟨by omega, by omega, HD.out b (by have := hf.1; have := HS1.out; omega), by have := hf.1; have := HS1.out; omega⟩) (fun b hb _ => pb.block b hb)) p8 (by omega) HL1.out (by have := HL1.out; omega) (fun b hb => ⟨HD.out b (by have := HG.out; omega), by have := HG.out; omega⟩) ((hA.2.2.1.below B3.out).mono (by have := HS1.out; omega)) hA.2.2.2.1 hA.2.2.2.2.1 hA.2.2.2.2.2
  have HKF : Hid (Calls Tryz.prog 22 #[.agg cs, .slice a l.length c, .func (.func 23) #[] #[.pointer (some ⟨w1.heap.size, 0, none⟩), .pointer (some ⟨w1.heap.size + 1, 0, none⟩)]] W3 (FwP W0.heap.size (fun b => D b ∧ b ≠ w.heap.size + 1) w1.heap.size (w1.heap.size + 1) n s l W3)) := KF
  have HT1 : Hid (W3.heap[w.heap.size + 1]? = some (.cells zS 37 (0, 0))) := t1
  have HW0 : Hid (w.heap.size ≤ W0.heap.size) := b0.out.size
  clear KF hA p7 p8 pb s0 s1 t1 hsz3
  go_wp2_with (refine wpList_load_row rfl 37 _ rfl w.heap.size rfl 37 cs (0, 0) _ t0 Tryz.underlying37 rfl hi ?_)
  refine HKF.out.mono ?_
  rintro e w4 ⟨code, s', k, c7, rfl, hfo, h70, hp, hsm, h80, hb4⟩
  have hi7 := info33s c7 hp.size
  have hi7l := info33l c7 hp.size
  have z7 : zS.size = c7.size := hp.size.symm
  have a7 := all_one hp.one
  have h7 : Hid (w4.heap[w1.heap.size]? = some (.cells c7 37 (0, 0))) := h70
  have h8 : Hid (w4.heap[w1.heap.size + 1]? = some (.cells #[.int .i64 (k : Int)] 3 (0, 0))) := h80
  have hz4 : Hid (w4.heap[w.heap.size + 1]? = some (.cells zS 37 (0, 0))) := by
    show w4.heap[w.heap.size + 1]? = _
    rw [hb4.block _ HS1.out]
    exact HT1.out
  have HR4 : Hid (FoE (n + 1) s l s' k code ∧ Sml (n + 1) s' ∧ Below w.heap.size w w4) := ⟨hfo, hsm, B3.out.trans (hb4.mono HW0.out)⟩
  have HP4 : Hid (Ps (Okf (fun b => D b ∧ b ≠ w.heap.size + 1) w1.heap.size (w1.heap.size + 1)) w4 (n + 1) c7 s') := hp
  clear hfo h70 hp hsm h80 hb4 t0 HKF
  go_wp2_with fail
  refine wp_region_held_drew (S := (fun w' => w'.rangeAt w1.heap.size 0 c7.toList ∧ w'.cell? ⟨w1.heap.size + 1, 0, none⟩ = some (.int .i64 (k : Int)))) (by kernel_rfl) ⟨row_range h7.out, row_cell h8.out rfl⟩ (fun hHeld => ?_)
  change wpAnyH _ _ _ _ _ _ _ _ (World.drew _)
  refine wpAnyH_take (i := 0) (oi := { dst := some 16, op := Go.Op.load 37 (Go.Operand.tmp 7), type := 37, pos := "fold.go:46", after := #[], guard := none }) (v := _) rfl (by kernel_rfl) (by kernel_rfl) (by kernel_rfl) (fun _ _ _ h => h) (yieldsIf_load_mid rfl 37 _ rfl w1.heap.size 0 rfl c7.toList _ (fun w h => h.1) Tryz.underlying37 rfl hi7l) hHeld ?_
  simp only [Act.put, List.setIfInBounds_toArray, List.set_cons_zero, List.set_cons_succ]
  refine wpAnyH_take (i := 1) (oi := { dst := some 17, op := Go.Op.load 3 (Go.Operand.tmp 8), type := 3, pos := "fold.go:46", after := #[{ on := 3, ground := Go.Ground.gcOnly Go.Departure.lateStores }], guard := none }) (v := ?_) rfl (by kernel_rfl) (by kernel_rfl) (by kernel_rfl) (fun _ _ _ h => h) (Or.inl ⟨by rfl, ?_⟩) hHeld ?_
  rotate_left 1
  · (intro w hSw; (try dsimp only at hSw); go_simp <;> with_reducible rfl)
  simp only [Act.put, List.setIfInBounds_toArray, List.set_cons_zero, List.set_cons_succ]
  refine wpAnyH_take (i := 2) (oi := { dst := some 18, op := Go.Op.move (Go.Operand.tmp 9), type := 38, pos := "fold.go:46", after := #[{ on := 4, ground := Go.Ground.gcOnly Go.Departure.lateStores }], guard := none }) (v := ?_) rfl (by kernel_rfl) (by kernel_rfl) (by kernel_rfl) (fun _ _ _ h => h) (Or.inl ⟨by rfl, ?_⟩) hHeld ?_
  rotate_left 1
  · (intro w hSw; (try dsimp only at hSw); go_simp <;> with_reducible rfl)
  simp only [Act.put, List.setIfInBounds_toArray, List.set_cons_zero, List.set_cons_succ]
  refine wpAnyH_ready (rs := [3]) (by kernel_rfl) (by simp) ?_
  refine AllReadyH.cons (o := { dst := none, op := Go.Op.store 37 (Go.Operand.tmp 4) (Go.Operand.tmp 16), type := 0, pos := "fold.go:46", after := #[{ on := 0, ground := Go.Ground.data }, { on := 0, ground := Go.Ground.phase }, { on := 1, ground := Go.Ground.textOnly Go.Departure.lateStores }, { on := 2, ground := Go.Ground.textOnly Go.Departure.lateStores }], guard := none }) rfl (fun K hK => ?_) AllReadyH.nil
  rw [if_pos (by rfl)]
  refine wp_store_row 37 _ _ rfl (w.heap.size + 1) c7 rfl rfl 37 zS hz4.out hi7 z7 a7 ?_
  refine hK.out _ _ ⟨row_range (show (World.setRow _ _ _).heap[w1.heap.size]? = _ from (setRow_other _ _ _ _ (by have := HG.out; omega)).trans h7.out), row_cell (show (World.setRow _ _ _).heap[w1.heap.size + 1]? = _ from (setRow_other _ _ _ _ (by have := HG.out; omega)).trans h8.out) rfl⟩ (fun hHeld => ?_)
  clear hK K
  simp only [Act.put]
  refine wpAnyH_take (i := 4) (oi := { dst := some 5, op := Go.Op.assign (Go.Operand.tmp 17), type := 3, pos := "fold.go:46", after := #[{ on := 1, ground := Go.Ground.data }, { on := 3, ground := Go.Ground.chain }, { on := 0, ground := Go.Ground.phase }, { on := 1, ground := Go.Ground.phase }, { on := 2, ground := Go.Ground.textOnly Go.Departure.lateStores }, { on := 3, ground := Go.Ground.phase }], guard := none }) (v := ?_) rfl (by kernel_rfl) (by kernel_rfl) (by kernel_rfl) (fun _ _ _ h => h) (Or.inl ⟨by rfl, ?_⟩) hHeld ?_
  rotate_left 1
  · (intro w hSw; (try dsimp only at hSw); go_simp <;> with_reducible rfl)
  simp only [Act.put, List.setIfInBounds_toArray, List.set_cons_zero, List.set_cons_succ]
  refine wpAnyH_take (i := 5) (oi := { dst := some 6, op := Go.Op.assign (Go.Operand.tmp 18), type := 38, pos := "fold.go:46", after := #[{ on := 2, ground := Go.Ground.data }, { on := 4, ground := Go.Ground.chain }, { on := 0, ground := Go.Ground.phase }, { on := 1, ground := Go.Ground.phase }, { on := 2, ground := Go.Ground.phase }, { on := 3, ground := Go.Ground.phase }, { on := 4, ground := Go.Ground.phase }], guard := none }) (v := ?_) rfl (by kernel_rfl) (by kernel_rfl) (by kernel_rfl) (fun _ _ _ h => h) (Or.inl ⟨by rfl, ?_⟩) hHeld ?_
  rotate_left 1
  · (intro w hSw; (try dsimp only at hSw); go_simp <;> with_reducible rfl)
  simp only [Act.put, List.setIfInBounds_toArray, List.set_cons_zero, List.set_cons_succ]
  refine wpAnyH_done (by kernel_rfl) ?_ _
  go_wp2_with fail
  have k9 := setRow_heap w4.drew (w.heap.size + 1) zS c7 37 (0, 0) hz4.out
  have hl : (loadVar 37 ⟨w.heap.size + 1, 0, none⟩).run Tryz.prog (w4.drew.setRow (w.heap.size + 1) c7) = .ok (.agg c7) (w4.drew.setRow (w.heap.size + 1) c7) := run_loadVar_row _ (w.heap.size + 1) 37 37 c7 (0, 0) _ k9 Tryz.underlying37 rfl hi7
  refine bodyPost_ret (v := .tuple #[.agg c7, .int .i64 (k : Int), .int .i64 code]) (ret_cell_tmp2 Tryz.results11 _ rfl rfl rfl hl) rfl (HQ.out c7 s' k code _ HR4.out.1 (HP4.out.okk (ok' := D) (fun _ _ h => h.2.2.1) (fun b hb hf => ?_)) HR4.out.2.1 (below_setRow HR4.out.2.2.drew (by omega) _))
  exact setRow_other w4.drew _ _ _ hf.2.2.2
end Go.Proofs.YtakaglfeeipeiaaGreat
namespace Go.Proofs.YtakaglfeeipeiaaGreat
open Go.ChangeAt Go.ChangeShapes Go.Deep Go.RowKit Go.WideShapes
theorem list2 {α : Type} : ∀ {l : List α}, l.length = 2 → ∃ a b, l = [a, b]
  | [a, b], _ => ⟨a, b, rfl⟩
theorem list3 {α : Type} : ∀ {l : List α}, l.length = 3 → ∃ a b c, l = [a, b, c]
  | [a, b, c], _ => ⟨a, b, c, rfl⟩
theorem list4 {α : Type} : ∀ {l : List α}, l.length = 4 → ∃ a b c d, l = [a, b, c, d]
  | [a, b, c, d], _ => ⟨a, b, c, d, rfl⟩
theorem list12 {α : Type} : ∀ {l : List α}, l.length = 12 → ∃ a0 a1 a2 a3 a4 a5 a6 a7 a8 a9 a10 a11, l = [a0, a1, a2, a3, a4, a5, a6, a7, a8, a9, a10, a11]
  | [a0, a1, a2, a3, a4, a5, a6, a7, a8, a9, a10, a11], _ => ⟨a0, a1, a2, a3, a4, a5, a6, a7, a8, a9, a10, a11, rfl⟩
theorem list17 {α : Type} : ∀ {l : List α}, l.length = 17 → ∃ a0 a1 a2 a3 a4 a5 a6 a7 a8 a9 a10 a11 a12 a13 a14 a15 a16, l = [a0, a1, a2, a3, a4, a5, a6, a7, a8, a9, a10, a11, a12, a13, a14, a15, a16]
  | [a0, a1, a2, a3, a4, a5, a6, a7, a8, a9, a10, a11, a12, a13, a14, a15, a16], _ => ⟨a0, a1, a2, a3, a4, a5, a6, a7, a8, a9, a10, a11, a12, a13, a14, a15, a16, rfl⟩
theorem list31 {α : Type} : ∀ {l : List α}, l.length = 31 → ∃ a0 a1 a2 a3 a4 a5 a6 a7 a8 a9 a10 a11 a12 a13 a14 a15 a16 a17 a18 a19 a20 a21 a22 a23 a24 a25 a26 a27 a28 a29 a30, l = [a0, a1, a2, a3, a4, a5, a6, a7, a8, a9, a10, a11, a12, a13, a14, a15, a16, a17, a18, a19, a20, a21, a22, a23, a24, a25, a26, a27, a28, a29, a30]
  | [a0, a1, a2, a3, a4, a5, a6, a7, a8, a9, a10, a11, a12, a13, a14, a15, a16, a17, a18, a19, a20, a21, a22, a23, a24, a25, a26, a27, a28, a29, a30], _ => ⟨a0, a1, a2, a3, a4, a5, a6, a7, a8, a9, a10, a11, a12, a13, a14, a15, a16, a17, a18, a19, a20, a21, a22, a23, a24, a25, a26, a27, a28, a29, a30, rfl⟩
theorem cells38 : Tryz.prog.cellsOf 64 = 2 := by kernel_rfl
theorem cells40 : Tryz.prog.cellsOf 67 = 12 := by kernel_rfl
theorem cells27 : Tryz.prog.cellsOf 31 = 3 := by kernel_rfl
theorem cells29 : Tryz.prog.cellsOf 33 = 5 := by kernel_rfl
theorem cells33 : Tryz.prog.cellsOf 37 = 31 := by kernel_rfl
/-- A slice of structs that came in: rows of cells, each read by itself. -/
theorem open_rows {H : Type} {enc : TypeId × Value → H} {W : World} {base : Nat} {spare : Nat → Bool} {held : Bool} {sl el : TypeId} {k : Nat} (hs : Tryz.prog.underlying sl = some (.slice el)) (hc : Tryz.prog.cellsOf el = k) (hk : 0 < k) (fuel : Nat) (cs : List Value) (x : DataW H × List MemPlace)
    (h : DataW.trod enc Tryz.prog W base spare held fuel sl cs = some x) (hwt : ∀ y ∈ x.1.weights Tryz.prog sl, y ≤ reachBytes) :
    ∃ (a : Option Addr) (cap q : Nat) (rows : List (List Value)), cs = [.slice a rows.length cap] ∧ rows.length ≤ 9223372036854775807 ∧ ∀ (i : Nat) r, rows[i]? = some r → r.length = k ∧ (∃ B o, a = some ⟨B, o, none⟩ ∧ ∀ (j : Nat) v, r[j]? = some v → W.cell? ⟨B, o + i * k + j, none⟩ = some v) ∧
      ∃ y, DataW.trod enc Tryz.prog W base spare held q el r = some y ∧ ∀ z ∈ y.1.weights Tryz.prog el, z ≤ reachBytes := by
  rcases DataW.trod_slice hs h with ⟨h4, _⟩ | ⟨a, len, cap, elems, rest, q, hq, h4, h4x, _, hl, hm, he, hx, _, _⟩
  · exact ⟨none, 0, 0, [], by rw [h4]; rfl, by simp, fun i r hr => by simp at hr⟩
  · unfold maxLen at hm
    have helem : ∀ i (hi : i < elems.length), ∀ y ∈ (elems[i]).1.weights Tryz.prog el, y ≤ reachBytes := fun i hi y hy => by
      apply hwt
      rw [h4x]
      simp only [DataW.weights, hs, List.mem_cons, List.mem_append]
      exact .inr (.inl (mem_all (List.mem_map.2 ⟨_, List.getElem_mem hi, rfl⟩) y hy))
    have each : ∀ i, i < len → ∃ r : List Value, r.length = k ∧ (∃ B o, a = ⟨B, o, none⟩ ∧ ∀ (j : Nat) v, r[j]? = some v → W.cell? ⟨B, o + i * k + j, none⟩ = some v) ∧ ∃ y, DataW.trod enc Tryz.prog W base spare held q el r = some y ∧ ∀ z ∈ y.1.weights Tryz.prog el, z ≤ reachBytes := by
      intro i hi
      have key := hx i hi
      rw [List.getElem?_eq_getElem (by omega)] at key
      obtain ⟨cs', k1, k2⟩ := Option.bind_eq_some_iff.1 key
      rw [hc] at k1
      obtain ⟨hl1, hl2, hcell⟩ := World.cells?_some k1
      have hlen : cs'.length = k := by first | exact hl1 | exact hl2
      have hsp : a.spot = none := by
        have key0 := hx 0 (by omega)
        rw [List.getElem?_eq_getElem (by omega)] at key0
        obtain ⟨cs0, k10, _⟩ := Option.bind_eq_some_iff.1 key0
        rw [hc] at k10
        obtain ⟨g1, g2, hcell0⟩ := World.cells?_some k10
        have hl0 : cs0.length = k := by first | exact g1 | exact g2
        have q0 := hcell0 0 (by omega)
        rw [List.getElem?_eq_getElem (by omega)] at q0
        have := plain_addr q0
        simpa [Addr.add] using this
      obtain ⟨B, o, sp⟩ := a
      cases hsp
      refine ⟨cs', hlen, ⟨B, o, rfl, fun j v hj => ?_⟩, _, k2, helem i (by omega)⟩
      have hjl := (List.getElem?_eq_some_iff.1 hj).1
      have := hcell j (by omega)
      rw [addp, addp] at this
      rw [this]
      simpa using hj
    have inh : Inhabited (List Value) := ⟨[]⟩
    obtain ⟨F, hF⟩ := choose_lt each
    refine ⟨some a, cap, q, (List.range len).map F, by rw [h4]; simp, by simp; omega, fun i r hr => ?_⟩
    have hi : i < len := by have := (List.getElem?_eq_some_iff.1 hr).1; simpa using this
    rw [List.getElem?_map, List.getElem?_range hi] at hr
    cases hr
    obtain ⟨h1, ⟨B, o, h2, h3⟩, h5⟩ := hF i hi
    exact ⟨h1, ⟨B, o, by rw [h2], h3⟩, h5⟩
set_option maxRecDepth 100000 in
theorem open_tm {H : Type} {enc : TypeId × Value → H} {W : World} {base : Nat} {spare : Nat → Bool} {held : Bool} (fuel : Nat) (cs : List Value) (x : DataW H × List MemPlace) (h : DataW.trod enc Tryz.prog W base spare held fuel 64 cs = some x) :
    ∃ t : Tm, cs = [.string t.s, .int .i64 t.d] ∧ -9223372036854775808 ≤ t.d ∧ t.d ≤ 9223372036854775807 := by
  obtain ⟨xs, k, hk, hxy, hlen, hxl, hf⟩ := DataW.trod_struct Tryz.underlying64 h
  rw [cells38] at hlen
  obtain ⟨c0, c1, rfl⟩ := list2 hlen
  obtain ⟨y0, y1, rfl⟩ := list2 (l := xs) hxl
  have g0 := hf 0 _ rfl
  have g1 := hf 1 _ rfl
  clear hf hxl hlen hxy h
  simp only [List.getElem?_cons_zero, List.getElem?_cons_succ] at g0 g1
  obtain ⟨n0, e0, _, w0⟩ := DataW.trod_string Tryz.underlying9 g0
  obtain ⟨n1, e1, _, w1⟩ := DataW.trod_int Tryz.underlying3 g1
  cases e0; cases e1
  exact ⟨⟨n0, n1⟩, rfl, lo64 w1⟩
set_option maxRecDepth 100000 in
theorem open_po {H : Type} {enc : TypeId × Value → H} {W : World} {base : Nat} {spare : Nat → Bool} {held : Bool} (fuel : Nat) (cs : List Value) (x : DataW H × List MemPlace) (h : DataW.trod enc Tryz.prog W base spare held fuel 31 cs = some x) :
    ∃ (f : Int) (c : Nat) (m : Int), cs = [.int .i64 f, .int .u64 (c : Int), .int .i64 m] ∧ c < 18446744073709551616 := by
  obtain ⟨xs, k, hk, hxy, hlen, hxl, hf⟩ := DataW.trod_struct Tryz.underlying31 h
  rw [cells27] at hlen
  obtain ⟨c0, c1, c2, rfl⟩ := list3 hlen
  obtain ⟨y0, y1, y2, rfl⟩ := list3 (l := xs) hxl
  have g0 := hf 0 _ rfl
  have g1 := hf 1 _ rfl
  have g2 := hf 2 _ rfl
  clear hf hxl hlen hxy h
  simp only [List.getElem?_cons_zero, List.getElem?_cons_succ] at g0 g1 g2
  obtain ⟨n0, e0, _, w0⟩ := DataW.trod_int Tryz.underlying3 g0
  obtain ⟨n1, e1, _, w1⟩ := DataW.trod_int Tryz.underlying26 g1
  obtain ⟨n2, e2, _, w2⟩ := DataW.trod_int Tryz.underlying3 g2
  cases e0; cases e1; cases e2
  have g1 := lou64 w1
  refine ⟨n0, n1.toNat, n2, ?_, by omega⟩
  rw [Int.toNat_of_nonneg g1.1]
set_option maxRecDepth 100000 in
theorem open_task {H : Type} {enc : TypeId × Value → H} {W : World} {base : Nat} {spare : Nat → Bool} {held : Bool} (fuel : Nat) (cs : List Value) (x : DataW H × List MemPlace) (h : DataW.trod enc Tryz.prog W base spare held fuel 33 cs = some x) :
    ∃ a b c d e : Int, cs = [.int .i64 a, .int .i64 b, .int .i64 c, .int .i64 d, .int .i64 e] := by
  obtain ⟨xs, k, hk, hxy, hlen, hxl, hf⟩ := DataW.trod_struct Tryz.underlying33 h
  rw [cells29] at hlen
  obtain ⟨c0, c1, c2, c3, c4, rfl⟩ := list5 hlen
  obtain ⟨y0, y1, y2, y3, y4, rfl⟩ := list5 (l := xs) hxl
  have g0 := hf 0 _ rfl
  have g1 := hf 1 _ rfl
  have g2 := hf 2 _ rfl
  have g3 := hf 3 _ rfl
  have g4 := hf 4 _ rfl
  clear hf hxl hlen hxy h
  simp only [List.getElem?_cons_zero, List.getElem?_cons_succ] at g0 g1 g2 g3 g4
  obtain ⟨n0, e0, _, _⟩ := DataW.trod_int Tryz.underlying3 g0
  obtain ⟨n1, e1, _, _⟩ := DataW.trod_int Tryz.underlying3 g1
  obtain ⟨n2, e2, _, _⟩ := DataW.trod_int Tryz.underlying3 g2
  obtain ⟨n3, e3, _, _⟩ := DataW.trod_int Tryz.underlying3 g3
  obtain ⟨n4, e4, _, _⟩ := DataW.trod_int Tryz.underlying3 g4
  cases e0; cases e1; cases e2; cases e3; cases e4
  exact ⟨_, _, _, _, _, rfl⟩
theorem isV5 {W : World} {n : Nat} {v0 v1 v2 v3 v4 : Value} {t : Tv} (h : Is W n (.agg #[v0, v1, v2, v3, v4]) t) {cs : Array Value} {p : Nat} (h0 : cs[p]? = some v0) (h1 : cs[p + 1]? = some v1) (h2 : cs[p + 2]? = some v2) (h3 : cs[p + 3]? = some v3) (h4 : cs[p + 4]? = some v4) : V5 (Is W n) cs p t := by
  obtain ⟨k, x, b, s, a, m, c, rfl, rfl, rfl, rfl, rfl⟩ := h.shape
  exact ⟨k, x, b, s, a, m, c, h0, h1, h2, h3, h4, h⟩
set_option maxRecDepth 100000 in
theorem open_up {H : Type} {enc : TypeId × Value → H} {W : World} {base : Nat} {spare : Nat → Bool} {held : Bool} (fuel : Nat) (cs : List Value) (x : DataW H × List MemPlace) (h : DataW.trod enc Tryz.prog W base spare held fuel 67 cs = some x) (hwt : ∀ y ∈ x.1.weights Tryz.prog 67, y ≤ reachBytes) :
    ∃ (u : Up) (n : Nat), IsU (Is W n) cs.toArray u ∧ SmallW n u.v ∧ SmallW n u.o := by
  obtain ⟨xs, q, hk, hxy, hlen, hxl, hf⟩ := DataW.trod_struct Tryz.underlying67 h
  rw [cells40] at hlen
  obtain ⟨a0, a1, a2, a3, a4, a5, a6, a7, a8, a9, a10, a11, rfl⟩ := list12 hlen
  obtain ⟨y0, y1, y2, y3, rfl⟩ := list4 (l := xs) hxl
  have hw1 : ∀ y ∈ y1.1.weights Tryz.prog 29, y ≤ reachBytes := fun y hy => by
    apply hwt
    rw [hxy]
    simp only [DataW.weights, Tryz.underlying67]
    exact DataW.weights_mem_each (j := 1) rfl rfl y hy
  have hw3 : ∀ y ∈ y3.1.weights Tryz.prog 29, y ≤ reachBytes := fun y hy => by
    apply hwt
    rw [hxy]
    simp only [DataW.weights, Tryz.underlying67]
    exact DataW.weights_mem_each (j := 3) rfl rfl y hy
  clear hwt
  have g0 := hf 0 _ rfl
  have g1 := hf 1 _ rfl
  have g2 := hf 2 _ rfl
  have g3 := hf 3 _ rfl
  clear hf hxl hlen hxy h
  simp only [List.getElem?_cons_zero, List.getElem?_cons_succ] at g0 g1 g2 g3
  obtain ⟨s0, p0, _, _⟩ := DataW.trod_string Tryz.underlying9 g0
  obtain ⟨v0, v1, v2, v3, v4, t1, m1, p1, i1, sm1⟩ := open_valW q _ _ g1 hw1
  obtain ⟨n2, p2, _, _⟩ := DataW.trod_int Tryz.underlying3 g2
  obtain ⟨o0, o1, o2, o3, o4, t3, m3, p3, i3, sm3⟩ := open_valW q _ _ g3 hw3
  cases p0; cases p1; cases p2; cases p3
  refine ⟨⟨s0, t1, n2, t3⟩, m1 + m3, ⟨rfl, rfl, isV5 (i1.up (by omega)) rfl rfl rfl rfl rfl, rfl, isV5 (i3.up (by omega)) rfl rfl rfl rfl rfl⟩, sm1.up (by omega), sm3.up (by omega)⟩
set_option maxRecDepth 100000 in
theorem open_sta {H : Type} {enc : TypeId × Value → H} {W : World} {base : Nat} {spare : Nat → Bool} {held : Bool} (fuel : Nat) (cs : List Value) (x : DataW H × List MemPlace) (h : DataW.trod enc Tryz.prog W base spare held fuel 37 cs = some x) (hwt : ∀ y ∈ x.1.weights Tryz.prog 37, y ≤ reachBytes) :
    ∃ (s : Sta) (n : Nat), Rs W n cs.toArray s ∧ SmS n s ∧ s.pc < 18446744073709551616 := by
  obtain ⟨xs, q, hk, hxy, hlen, hxl, hf⟩ := DataW.trod_struct Tryz.underlying37 h
  rw [cells33] at hlen
  obtain ⟨a0, a1, a2, a3, a4, a5, a6, a7, a8, a9, a10, a11, a12, a13, a14, a15, a16, a17, a18, a19, a20, a21, a22, a23, a24, a25, a26, a27, a28, a29, a30, rfl⟩ := list31 hlen
  obtain ⟨y0, y1, y2, y3, y4, y5, y6, y7, y8, y9, y10, y11, y12, y13, y14, y15, y16, rfl⟩ := list17 (l := xs) hxl
  have hw8 : ∀ y ∈ y8.1.weights Tryz.prog 29, y ≤ reachBytes := fun y hy => by
    apply hwt
    rw [hxy]
    simp only [DataW.weights, Tryz.underlying37]
    exact DataW.weights_mem_each (j := 8) rfl rfl y hy
  have hw13 : ∀ y ∈ y13.1.weights Tryz.prog 34, y ≤ reachBytes := fun y hy => by
    apply hwt
    rw [hxy]
    simp only [DataW.weights, Tryz.underlying37]
    exact DataW.weights_mem_each (j := 13) rfl rfl y hy
  have hw14 : ∀ y ∈ y14.1.weights Tryz.prog 35, y ≤ reachBytes := fun y hy => by
    apply hwt
    rw [hxy]
    simp only [DataW.weights, Tryz.underlying37]
    exact DataW.weights_mem_each (j := 14) rfl rfl y hy
  have hw15 : ∀ y ∈ y15.1.weights Tryz.prog 29, y ≤ reachBytes := fun y hy => by
    apply hwt
    rw [hxy]
    simp only [DataW.weights, Tryz.underlying37]
    exact DataW.weights_mem_each (j := 15) rfl rfl y hy
  clear hwt
  have g0 := hf 0 _ rfl
  have g1 := hf 1 _ rfl
  have g2 := hf 2 _ rfl
  have g3 := hf 3 _ rfl
  have g4 := hf 4 _ rfl
  have g5 := hf 5 _ rfl
  have g6 := hf 6 _ rfl
  have g7 := hf 7 _ rfl
  have g8 := hf 8 _ rfl
  have g9 := hf 9 _ rfl
  have g10 := hf 10 _ rfl
  have g11 := hf 11 _ rfl
  have g12 := hf 12 _ rfl
  have g13 := hf 13 _ rfl
  have g14 := hf 14 _ rfl
  have g15 := hf 15 _ rfl
  have g16 := hf 16 _ rfl
  clear hf hxl hlen hxy h
  simp only [List.getElem?_cons_zero, List.getElem?_cons_succ] at g0 g1 g2 g3 g4 g5 g6 g7 g8 g9 g10 g11 g12 g13 g14 g15 g16
  obtain ⟨n0, p0, _, _⟩ := DataW.trod_int Tryz.underlying3 g0
  obtain ⟨n1, p1, _, _⟩ := DataW.trod_int Tryz.underlying3 g1
  obtain ⟨n2, p2, _, _⟩ := DataW.trod_int Tryz.underlying3 g2
  obtain ⟨n3, p3, _, _⟩ := DataW.trod_int Tryz.underlying3 g3
  obtain ⟨n4, p4, _, _⟩ := DataW.trod_int Tryz.underlying3 g4
  obtain ⟨n5, p5, _, _⟩ := DataW.trod_int Tryz.underlying3 g5
  obtain ⟨n6, p6, _, _⟩ := DataW.trod_int Tryz.underlying3 g6
  obtain ⟨s7, p7, _, _⟩ := DataW.trod_string Tryz.underlying9 g7
  obtain ⟨v0, v1, v2, v3, v4, t8, m8, p8, i8, sm8⟩ := open_valW q _ _ g8 hw8
  obtain ⟨f9, c9, m9, p9, q9⟩ := open_po q _ _ g9
  obtain ⟨k0, k1, k2, k3, k4, p10⟩ := open_task q _ _ g10
  obtain ⟨b11, p11, _⟩ := DataW.trod_bool Tryz.underlying4 g11
  obtain ⟨b12, p12, _⟩ := DataW.trod_bool Tryz.underlying4 g12
  obtain ⟨ta, tc, tq, trows, p13, _, ht⟩ := open_rows Tryz.underlying34 cells38 (by decide) q _ _ g13 hw13
  obtain ⟨ua, uc, uq, urows, p14, _, hu⟩ := open_rows Tryz.underlying35 cells40 (by decide) q _ _ g14 hw14
  obtain ⟨o0, o1, o2, o3, o4, t15, m15, p15, i15, sm15⟩ := open_valW q _ _ g15 hw15
  obtain ⟨s16, p16, _, _⟩ := DataW.trod_string Tryz.underlying9 g16
  cases p0; cases p1; cases p2; cases p3; cases p4; cases p5; cases p6; cases p7; cases p8; cases p9; cases p10; cases p11; cases p12; cases p13; cases p14; cases p15; cases p16
  have inh1 : Inhabited Tm := ⟨⟨⟨#[]⟩, 0⟩⟩
  have inh2 : Inhabited (Up × Nat) := ⟨⟨⟨#[]⟩, t8, 0, t8⟩, 0⟩
  have et : ∀ i, i < trows.length → ∃ t : Tm, trows[i]? = some [.string t.s, .int .i64 t.d] := fun i hi => by
    obtain ⟨_, _, y, hy, _⟩ := ht i _ (List.getElem?_eq_getElem hi)
    obtain ⟨t, e, _⟩ := open_tm _ _ _ hy
    exact ⟨t, by rw [List.getElem?_eq_getElem hi, e]⟩
  have eu : ∀ i, i < urows.length → ∃ u : Up × Nat, ∃ r, urows[i]? = some r ∧ IsU (Is W u.2) r.toArray u.1 ∧ SmallW u.2 u.1.v ∧ SmallW u.2 u.1.o := fun i hi => by
    obtain ⟨_, _, y, hy, hz⟩ := hu i _ (List.getElem?_eq_getElem hi)
    obtain ⟨u, n, e⟩ := open_up _ _ _ hy hz
    exact ⟨(u, n), _, List.getElem?_eq_getElem hi, e⟩
  obtain ⟨FT, hFT⟩ := choose_lt et
  obtain ⟨FU, hFU⟩ := choose_lt eu
  obtain ⟨N, hN⟩ := fuel_lt (n := urows.length) (q := fun i N => (FU i).2 ≤ N) (fun _ _ _ h h' => Nat.le_trans h' h) (fun i _ => ⟨_, Nat.le_refl _⟩)
  have hup : ∀ (i : Nat) u, ((List.range urows.length).map fun i => (FU i).1)[i]? = some u → i < urows.length ∧ u = (FU i).1 := fun i u h => by
    have hi : i < urows.length := by have := (List.getElem?_eq_some_iff.1 h).1; simpa using this
    rw [List.getElem?_map, List.getElem?_range hi] at h
    cases h
    exact ⟨hi, rfl⟩
  refine ⟨⟨n0, n1, n2, n3, n4, n5, n6, s7, t8, f9, c9, m9, k0, k1, k2, k3, k4, b11, b12, (List.range trows.length).map FT, (List.range urows.length).map fun i => (FU i).1, t15, s16⟩, m8 + m15 + N, ?_, ⟨sm8.up (by omega), sm15.up (by omega), fun i u h => ?_⟩, q9⟩
  · refine { size := rfl, c0 := rfl, c1 := rfl, c2 := rfl, c3 := rfl, c4 := rfl, c5 := rfl, c6 := rfl, c7 := rfl, c13 := rfl, c14 := rfl, c15 := rfl, c16 := rfl, c17 := rfl, c18 := rfl, c19 := rfl, c20 := rfl, c21 := rfl, c22 := rfl, c30 := rfl, inp := isV5 (i8.up (by omega)) rfl rfl rfl rfl rfl, res := isV5 (i15.up (by omega)) rfl rfl rfl rfl rfl, tm := ⟨ta, tc, by simp, fun i r hr => ?_⟩, up := ⟨ua, uc, urows.map List.toArray, by simp, by simp, fun i r hr => ?_, fun i r u hr h => ?_⟩ }
    · have hi : i < trows.length := by have := (List.getElem?_eq_some_iff.1 hr).1; simpa using this
      rw [List.getElem?_map, List.getElem?_map, List.getElem?_range hi] at hr
      cases hr
      obtain ⟨_, ⟨B, o, h2, h3⟩, _⟩ := ht i _ (hFT i hi)
      refine ⟨rfl, fun j v hj => ?_, B, o, h2, trivial, fun j v hj => h3 j v (by simpa [Tm.cells] using hj)⟩
      have hj2 : [Value.string (FT i).s, .int .i64 (FT i).d][j]? = some v := by simpa [Tm.cells] using hj
      have hm := List.mem_of_getElem? hj2
      simp only [List.mem_cons, List.not_mem_nil, or_false] at hm
      rcases hm with rfl | rfl <;> rfl
    · have hi : i < urows.length := by have := (List.getElem?_eq_some_iff.1 hr).1; simpa using this
      obtain ⟨r', hr', e⟩ := hFU i hi
      rw [List.getElem?_map, hr'] at hr
      cases hr
      obtain ⟨h1, ⟨B, o, h2, h3⟩, _⟩ := hu i _ hr'
      exact ⟨by simpa using h1, e.1.one, B, o, h2, trivial, fun j v hj => h3 j v (by simpa using hj)⟩
    · obtain ⟨hi, rfl⟩ := hup i u h
      obtain ⟨r', hr', e⟩ := hFU i hi
      rw [List.getElem?_map, hr'] at hr
      cases hr
      exact e.1.map fun v t hv => hv.up (by have := hN i hi; omega)
  · obtain ⟨hi, rfl⟩ := hup i u h
    obtain ⟨r', hr', e⟩ := hFU i hi
    exact ⟨e.2.1.up (by have := hN i hi; omega), e.2.2.up (by have := hN i hi; omega)⟩
end Go.Proofs.YtakaglfeeipeiaaGreat
namespace Go.Proofs.YtakaglfeeipeiaaGreat
open Go.ChangeAt Go.ChangeShapes Go.Deep Go.RowKit Go.WideShapes
theorem list7 {α : Type} : ∀ {l : List α}, l.length = 7 → ∃ a0 a1 a2 a3 a4 a5 a6, l = [a0, a1, a2, a3, a4, a5, a6]
  | [a0, a1, a2, a3, a4, a5, a6], _ => ⟨a0, a1, a2, a3, a4, a5, a6, rfl⟩
theorem list13 {α : Type} : ∀ {l : List α}, l.length = 13 → ∃ a0 a1 a2 a3 a4 a5 a6 a7 a8 a9 a10 a11 a12, l = [a0, a1, a2, a3, a4, a5, a6, a7, a8, a9, a10, a11, a12]
  | [a0, a1, a2, a3, a4, a5, a6, a7, a8, a9, a10, a11, a12], _ => ⟨a0, a1, a2, a3, a4, a5, a6, a7, a8, a9, a10, a11, a12, rfl⟩
theorem cells45 : Tryz.prog.cellsOf 44 = 13 := by kernel_rfl
set_option maxRecDepth 100000 in
theorem open_e13 {H : Type} {enc : TypeId × Value → H} {W : World} {base : Nat} {spare : Nat → Bool} {held : Bool} (fuel : Nat) (cs : List Value) (x : DataW H × List MemPlace) (h : DataW.trod enc Tryz.prog W base spare held fuel 44 cs = some x) (hwt : ∀ y ∈ x.1.weights Tryz.prog 44, y ≤ reachBytes) :
    ∃ (e : Ev) (n : Nat), IsEv (Is W n) cs.toArray e ∧ SmallW n e.v ∧ e.c < 18446744073709551616 := by
  obtain ⟨xs, q, hk, hxy, hlen, hxl, hf⟩ := DataW.trod_struct Tryz.underlying44 h
  rw [cells45] at hlen
  obtain ⟨a0, a1, a2, a3, a4, a5, a6, a7, a8, a9, a10, a11, a12, rfl⟩ := list13 hlen
  obtain ⟨y0, y1, y2, y3, y4, y5, y6, rfl⟩ := list7 (l := xs) hxl
  have hw5 : ∀ y ∈ y5.1.weights Tryz.prog 29, y ≤ reachBytes := fun y hy => by
    apply hwt
    rw [hxy]
    simp only [DataW.weights, Tryz.underlying44]
    exact DataW.weights_mem_each (j := 5) rfl rfl y hy
  clear hwt
  have g0 := hf 0 _ rfl
  have g1 := hf 1 _ rfl
  have g2 := hf 2 _ rfl
  have g3 := hf 3 _ rfl
  have g4 := hf 4 _ rfl
  have g5 := hf 5 _ rfl
  have g6 := hf 6 _ rfl
  clear hf hxl hlen hxy h
  simp only [List.getElem?_cons_zero, List.getElem?_cons_succ] at g0 g1 g2 g3 g4 g5 g6
  obtain ⟨n0, p0, _, _⟩ := DataW.trod_int Tryz.underlying3 g0
  obtain ⟨n1, p1, _, _⟩ := DataW.trod_int Tryz.underlying3 g1
  obtain ⟨n2, p2, _, _⟩ := DataW.trod_int Tryz.underlying3 g2
  obtain ⟨n3, p3, _, _⟩ := DataW.trod_int Tryz.underlying3 g3
  obtain ⟨s4, p4, _, _⟩ := DataW.trod_string Tryz.underlying9 g4
  obtain ⟨v0, v1, v2, v3, v4, t5, m5, p5, i5, sm5⟩ := open_valW q _ _ g5 hw5
  obtain ⟨f6, c6, m6, p6, q6⟩ := open_po q _ _ g6
  cases p0; cases p1; cases p2; cases p3; cases p4; cases p5; cases p6
  exact ⟨⟨n0, n1, n2, n3, s4, t5, f6, c6, m6⟩, m5, ⟨rfl, rfl, rfl, rfl, rfl, rfl, isV5 i5 rfl rfl rfl rfl rfl, rfl, rfl, rfl⟩, sm5, q6⟩
theorem isP_of_is {w : World} : ∀ {n : Nat} {v : Value} {t : Tv}, Is w n v t → IsP (fun b => b < w.heap.size) w n v t
  | 0, _, _, h => h
  | n + 1, v, .mk k x b s l, ⟨a, c, hv, hf, hr⟩ => ⟨a, c, hv, hf, fun i t ht => by
      obtain ⟨B, o, c0, c1, c2, c3, c4, ha, h5, hi⟩ := hr i t ht
      exact ⟨B, o, c0, c1, c2, c3, c4, ha, World.block_lt_of_cell? w _ h5.1, h5, isP_of_is hi⟩⟩
theorem open_evs {H : Type} {enc : TypeId × Value → H} {W : World} {base : Nat} {spare : Nat → Bool} {held : Bool} (fuel : Nat) (cs : List Value) (x : DataW H × List MemPlace) (h : DataW.trod enc Tryz.prog W base spare held fuel 22 cs = some x) (hwt : ∀ y ∈ x.1.weights Tryz.prog 22, y ≤ reachBytes) :
    ∃ (a : Option Addr) (c : Nat) (l : List Ev) (n : Nat), cs = [.slice a l.length c] ∧ l.length ≤ c ∧ IsL W.heap.size W (n + 1) a l ∧ SmL (n + 1) l := by
  have hcap : ∀ a n c, cs = [.slice a n c] → n ≤ c := fun a n c e => by
    rcases DataW.trod_slice Tryz.underlying22 h with ⟨h4, _⟩ | ⟨a', len, cap, elems, rest, q, hq, h4, _, _, hl, _⟩
    · rw [e] at h4; cases h4; exact Nat.le_refl _
    · rw [e] at h4; cases h4; exact hl
  obtain ⟨a, cap, q, rows, hcs, _, hr⟩ := open_rows Tryz.underlying22 cells45 (by decide) fuel _ _ h hwt
  have inh : Inhabited (Ev × Nat) := ⟨⟨0, 0, 0, 0, ⟨#[]⟩, zE, 0, 0, 0⟩, 0⟩
  have each : ∀ i, i < rows.length → ∃ u : Ev × Nat, ∃ r, rows[i]? = some r ∧ IsEv (Is W u.2) r.toArray u.1 ∧ SmallW u.2 u.1.v ∧ u.1.c < 18446744073709551616 := fun i hi => by
    obtain ⟨_, _, y, hy, hz⟩ := hr i _ (List.getElem?_eq_getElem hi)
    obtain ⟨e, n, g⟩ := open_e13 _ _ _ hy hz
    exact ⟨(e, n), _, List.getElem?_eq_getElem hi, g⟩
  obtain ⟨F, hF⟩ := choose_lt each
  obtain ⟨N, hN⟩ := fuel_lt (n := rows.length) (q := fun i N => (F i).2 ≤ N) (fun _ _ _ h h' => Nat.le_trans h' h) (fun i _ => ⟨_, Nat.le_refl _⟩)
  have hl : ((List.range rows.length).map fun i => (F i).1).length = rows.length := by simp
  have hget : ∀ (i : Nat) e, ((List.range rows.length).map fun i => (F i).1)[i]? = some e → i < rows.length ∧ e = (F i).1 := fun i e h => by
    have hi : i < rows.length := by have := (List.getElem?_eq_some_iff.1 h).1; simpa using this
    rw [List.getElem?_map, List.getElem?_range hi] at h
    cases h
    exact ⟨hi, rfl⟩
  refine ⟨a, cap, (List.range rows.length).map fun i => (F i).1, N, by rw [hl]; exact hcs, by rw [hl]; exact hcap _ _ _ hcs, ⟨rows.map List.toArray, by simp, fun i r h => ?_, fun i r e h he => ?_⟩, fun i e he => ?_⟩
  · have hi : i < rows.length := by have := (List.getElem?_eq_some_iff.1 h).1; simpa using this
    obtain ⟨r', hr', g⟩ := hF i hi
    rw [List.getElem?_map, hr'] at h
    cases h
    obtain ⟨h1, ⟨B, o, h2, h3⟩, _⟩ := hr i _ hr'
    refine ⟨by simpa using h1, g.1.one, B, o, h2, ?_, fun j v hj => h3 j v (by simpa using hj)⟩
    exact World.block_lt_of_cell? W ⟨B, o + i * 13 + 0, none⟩ (h3 0 _ (List.getElem?_eq_getElem (by omega)))
  · obtain ⟨hi, rfl⟩ := hget i e he
    obtain ⟨r', hr', g⟩ := hF i hi
    rw [List.getElem?_map, hr'] at h
    cases h
    exact g.1.map fun v t hv => isP_of_is (hv.up (by have := hN i hi; omega))
  · obtain ⟨hi, rfl⟩ := hget i e he
    obtain ⟨r', hr', g⟩ := hF i hi
    exact ⟨g.2.1.up (by have := hN i hi; omega), g.2.2⟩
end Go.Proofs.YtakaglfeeipeiaaGreat
namespace Go.Proofs.YtakaglfeeipeiaaGreat
open Go.ChangeShapes Go.WideShapes Go.ChangeAt Go.RowKit
/-- A state of this Run, with nothing else. -/
def zSr (r : Int) : Array Value := #[.int .i64 r, .int .i64 0, .int .i64 0, .int .i64 0, .int .i64 0, .int .i64 0, .int .i64 0, .string ⟨#[]⟩, .int .i64 0, .int .i64 0, .int .u64 0, .string ⟨#[]⟩, .slice none 0 0, .int .i64 0, .int .u64 0, .int .i64 0, .int .i64 0, .int .i64 0, .int .i64 0, .int .i64 0, .int .i64 0, .bool false, .bool false, .slice none 0 0, .slice none 0 0, .int .i64 0, .int .i64 0, .int .u64 0, .string ⟨#[]⟩, .slice none 0 0, .string ⟨#[]⟩]
def s0 (r : Int) : Sta := ⟨r, 0, 0, 0, 0, 0, 0, ⟨#[]⟩, zE, 0, 0, 0, 0, 0, 0, 0, 0, false, false, [], [], zE, ⟨#[]⟩⟩
theorem s0_ps (ok : Nat → Prop) (r : Int) (w : World) (n : Nat) : Ps ok w (n + 1) (zSr r) (s0 r) :=
  { size := rfl, c0 := rfl, c1 := rfl, c2 := rfl, c3 := rfl, c4 := rfl, c5 := rfl, c6 := rfl, c7 := rfl, c13 := rfl, c14 := rfl, c15 := rfl, c16 := rfl, c17 := rfl, c18 := rfl, c19 := rfl, c20 := rfl, c21 := rfl, c22 := rfl, c30 := rfl, inp := ⟨0, 0, 0, ⟨#[]⟩, none, 0, 0, rfl, rfl, rfl, rfl, rfl, zE_isP _ w n⟩, res := ⟨0, 0, 0, ⟨#[]⟩, none, 0, 0, rfl, rfl, rfl, rfl, rfl, zE_isP _ w n⟩, tm := ⟨none, 0, rfl, fun i r h => by simp [s0] at h⟩, up := ⟨none, 0, [], rfl, rfl, fun i r h => by simp at h, fun i r u h => by simp at h⟩ }
theorem smallZ (n : Nat) : SmallW (n + 1) zE := ⟨by decide, fun i t h => by simp at h⟩
theorem sml0 (n : Nat) (r : Int) : Sml (n + 1) (s0 r) := ⟨⟨smallZ n, smallZ n, fun i u h => by simp [s0] at h⟩, Nat.zero_le _, Nat.zero_le _⟩
theorem zE_may : May 1 zE := by
  refine ⟨?_, by decide +kernel⟩
  refine ⟨?_, by decide, fun i t h => by simp at h⟩
  unfold Fits FitsB
  exact ⟨by decide, by decide, .inr rfl, .inr rfl, by decide +kernel, .inr (by decide +kernel), by decide, .inr rfl, by decide⟩
theorem infoZ : (Tryz.prog.info? 37).map (·.size) = some zS.size := info33s zS rfl
theorem infoR (r : Int) : (Tryz.prog.info? 37).map (·.size) = some (zSr r).size := info33s (zSr r) rfl
theorem oneR (r : Int) (w : World) : (zSr r).all (·.oneCell') = true := all_one (s0_ps (fun _ => True) r w 0).one
theorem oneZ (w : World) : zS.all (·.oneCell') = true := oneR 0 w
/-- What unstarted answers. -/
def UnP (r : Int) (w : World) (e : Ending) (w' : World) : Prop := ((1 ≤ r ∧ r ≤ 10 → e = .returned (.tuple #[.agg (zSr r), .bool true])) ∧ (¬ (1 ≤ r ∧ r ≤ 10) → e = .returned (.tuple #[.agg zS, .bool false]))) ∧ Below w.heap.size w w'
set_option maxHeartbeats 2000000 in
set_option maxRecDepth 100000 in
theorem unstarted_calls (r : Int) (w : World) : Calls Tryz.prog 10 #[.int .i64 r] w (UnP r w) := by
  have n1 : (w.alloc (.cells zS 37)).heap[w.heap.size]? = some (.cells zS 37 (0, 0)) := heap_alloc_new w _
  have hT : Hid (1 ≤ r ∧ r ≤ 10 → ∀ W, Below w.heap.size w W → UnP r w (.returned (.tuple #[.agg (zSr r), .bool true])) W) := fun h W hb => ⟨⟨fun _ => rfl, fun h' => absurd h h'⟩, hb⟩
  have hF : Hid (¬ (1 ≤ r ∧ r ≤ 10) → ∀ W, Below w.heap.size w W → UnP r w (.returned (.tuple #[.agg zS, .bool false])) W) := fun h W hb => ⟨⟨fun h' => absurd h' h, fun _ => rfl⟩, hb⟩
  generalize UnP r w = Q at hT hF ⊢
  have iz := infoZ
  have ir := infoR r
  have oz := oneZ w
  have orr := oneR r w
  have hzr : zS.size = (zSr r).size := rfl
  have k1 := setRow_heap (w.alloc (.cells zS 37)) w.heap.size zS zS 37 (0, 0) n1
  have k2 := setRow_heap (w.alloc (.cells zS 37)) w.heap.size zS (zSr r) 37 (0, 0) n1
  have l1 : (loadVar 37 ⟨w.heap.size, 0, none⟩).run Tryz.prog ((w.alloc (.cells zS 37)).setRow w.heap.size zS) = .ok (.agg zS) ((w.alloc (.cells zS 37)).setRow w.heap.size zS) := run_loadVar_row _ w.heap.size 37 37 zS (0, 0) _ k1 Tryz.underlying37 rfl iz
  have l2 : (loadVar 37 ⟨w.heap.size, 0, none⟩).run Tryz.prog ((w.alloc (.cells zS 37)).setRow w.heap.size (zSr r)) = .ok (.agg (zSr r)) ((w.alloc (.cells zS 37)).setRow w.heap.size (zSr r)) := run_loadVar_row _ w.heap.size 37 37 (zSr r) (0, 0) _ k2 Tryz.underlying37 rfl ir
  have hb := bel1 w (.cells zS 37)
  have L1 : Hid (_ = _) := l1
  have L2 : Hid (_ = _) := l2
  clear k1 k2 l1 l2
  by_cases hr1 : r < 1
  · have d1 : decide (r < 1) = true := decide_eq_true hr1
    have HN : Hid (¬ (1 ≤ r ∧ r ≤ 10)) := (by omega : ¬ (1 ≤ r ∧ r ≤ 10))
    have HBl : Hid (Below w.heap.size w (w.alloc (.cells zS 37))) := hb
    clear hb hT
    go_enter Tryz.func10, Tryz.ntmps10
    go_wp2_with (refine wpList_store_row rfl 37 _ _ rfl w.heap.size zS rfl rfl 37 zS n1 iz rfl oz ?_)
    exact bodyPost_ret (v := .tuple #[.agg zS, .bool false]) (ret_cell_tmp Tryz.results10 _ rfl rfl L1.out) rfl (hF.out HN.out _ (below_setRow HBl.out (Nat.le_refl _) _))
  · have d1 : decide (r < 1) = false := decide_eq_false hr1
    by_cases hr2 : r > 10
    · have d2 : decide (r > 10) = true := decide_eq_true hr2
      have HN : Hid (¬ (1 ≤ r ∧ r ≤ 10)) := (by omega : ¬ (1 ≤ r ∧ r ≤ 10))
      have HBl : Hid (Below w.heap.size w (w.alloc (.cells zS 37))) := hb
      clear hb hT
      go_enter Tryz.func10, Tryz.ntmps10
      go_wp2_with (refine wpList_store_row rfl 37 _ _ rfl w.heap.size zS rfl rfl 37 zS n1 iz rfl oz ?_)
      exact bodyPost_ret (v := .tuple #[.agg zS, .bool false]) (ret_cell_tmp Tryz.results10 _ rfl rfl L1.out) rfl (hF.out HN.out _ (below_setRow HBl.out (Nat.le_refl _) _))
    · have d2 : decide (r > 10) = false := decide_eq_false hr2
      have HN : Hid (1 ≤ r ∧ r ≤ 10) := (by omega : 1 ≤ r ∧ r ≤ 10)
      have HBl : Hid (Below w.heap.size w (w.alloc (.cells zS 37))) := hb
      clear hb hF
      go_enter Tryz.func10, Tryz.ntmps10
      go_wp2_with (refine wpList_store_row rfl 37 _ _ rfl w.heap.size (zSr r) rfl rfl 37 zS n1 ir hzr orr ?_)
      exact bodyPost_ret (v := .tuple #[.agg (zSr r), .bool true]) (ret_cell_tmp Tryz.results10 _ rfl rfl L2.out) rfl (hT.out HN.out _ (below_setRow HBl.out (Nat.le_refl _) _))
/-- What Build answers. -/
def BuP (n : Nat) (r : Int) (l : List Ev) (w : World) (e : Ending) (w' : World) : Prop :=
  (∃ (cs' : Array Value) (s' : Sta) (k : Nat) (code : Int), e = .returned (.tuple #[.agg cs', .int .i64 (k : Int), .int .i64 code]) ∧ Rs w' (n + 1) cs' s' ∧ Sml (n + 1) s' ∧ ((1 ≤ r ∧ r ≤ 10 ∧ FoE (n + 1) (s0 r) l s' k code) ∨ (¬ (1 ≤ r ∧ r ≤ 10) ∧ s' = s0 0 ∧ k = 0 ∧ code = 1))) ∧ Below w.heap.size w w'
set_option maxHeartbeats 4000000 in
set_option maxRecDepth 100000 in
theorem build_calls (n : Nat) (r : Int) (a : Option Addr) (c : Nat) (l : List Ev) (w : World) (hL : IsL w.heap.size w (n + 1) a l) (hS : SmL (n + 1) l) (hll : l.length ≤ 1000) :
    Calls Tryz.prog 7 #[.int .i64 r, .slice a l.length c] w (BuP n r l w) := by
  have HL : Hid (IsL w.heap.size w (n + 1) a l ∧ SmL (n + 1) l ∧ l.length ≤ 1000) := ⟨hL, hS, hll⟩
  have HQ : Hid (∀ cs' s' (k : Nat) code w', Rs w' (n + 1) cs' s' → Sml (n + 1) s' → ((1 ≤ r ∧ r ≤ 10 ∧ FoE (n + 1) (s0 r) l s' k code) ∨ (¬ (1 ≤ r ∧ r ≤ 10) ∧ s' = s0 0 ∧ k = 0 ∧ code = 1)) → Below w.heap.size w w' → BuP n r l w (.returned (.tuple #[.agg cs', .int .i64 (k : Int), .int .i64 code])) w') := fun cs' s' k code w' a1 a2 a3 a4 => ⟨⟨cs', s', k, code, rfl, a1, a2, a3⟩, a4⟩
  generalize BuP n r l w = Q at HQ ⊢
  have n0 : (w.alloc (.cells zS 37)).heap[w.heap.size]? = some (.cells zS 37 (0, 0)) := heap_alloc_new w _
  have HB0 : Hid (Below w.heap.size w (w.alloc (.cells zS 37))) := bel1 _ _
  have KU : Hid (∀ W, Calls Tryz.prog 10 #[.int .i64 r] W (UnP r W)) := fun W => unstarted_calls r W
  clear hL hS hll
  go_enter Tryz.func7, Tryz.ntmps7
  go_upto_region 1 with fail
  change Code.wp _ _ _ _ (w.alloc (.cells zS 37))
  have HZ0 : Hid (w.heap.size < (w.alloc (.cells zS 37)).heap.size) := by show _ < _; simp
  generalize w.alloc (.cells zS 37) = W0 at n0 HB0 HZ0 ⊢
  go_wp2_with fail
  refine (KU.out _).mono ?_
  rintro e w1 ⟨hu, hb⟩
  have s0' := row_below hb n0
  have HB1 : Hid (Below w.heap.size w w1) := bel2 HB0.out hb
  have HZ1 : Hid (w.heap.size < w1.heap.size) := Nat.lt_of_lt_of_le HZ0.out hb.size
  have n1 : (w1.alloc (.cells zS 37)).heap[w1.heap.size]? = some (.cells zS 37 (0, 0)) := heap_alloc_new w1 _
  have iz := infoZ
  have oz := oneZ w
  clear hb n0 KU HZ0 HB0
  by_cases hr : 1 ≤ r ∧ r ≤ 10
  · obtain rfl := hu.1 hr
    have HR : Hid (1 ≤ r ∧ r ≤ 10) := hr
    have ir := infoR r
    have orr := oneR r w
    have hzr : zS.size = (zSr r).size := rfl
    clear hu hr
    go_upto_region 2 with (refine wpList_store_row rfl 37 _ _ rfl w1.heap.size (zSr r) rfl rfl 37 zS n1 ir hzr orr ?_)
    rw [World.setRow_alloc_new]
    have hb := bel1 w1 (.cells (zSr r) 37)
    have t0 := row_below hb s0'
    have t7 : (w1.alloc (.cells (zSr r) 37)).heap[w1.heap.size]? = some (.cells (zSr r) 37 (0, 0)) := heap_alloc_new w1 _
    have HB2 : Hid (Below w.heap.size w (w1.alloc (.cells (zSr r) 37))) := bel2 HB1.out hb
    have HZ2 : Hid (w1.heap.size < (w1.alloc (.cells (zSr r) 37)).heap.size) := by show _ < _; simp
    clear hb s0' n1
    generalize w1.alloc (.cells (zSr r) 37) = W2 at t0 t7 HB2 HZ2 ⊢
    have KE := extend_calls (fun b => b ≠ w.heap.size) n (zSr r) (s0 r) a c l W2 (s0_ps _ r W2 n) (fun b hb => by have := HZ1.out; have := HZ2.out; omega) (sml0 n r) ((HL.out.1.below HB2.out).mono HB2.out.size) HL.out.2.1 HL.out.2.2 (smallZ n)
    have HKE : Hid (Calls Tryz.prog 11 #[.agg (zSr r), .slice a l.length c] W2 (ExP (fun b => b ≠ w.heap.size) n (s0 r) l W2)) := KE
    clear KE
    go_wp2_with (refine wpList_load_row rfl 37 _ rfl w1.heap.size rfl 37 (zSr r) (0, 0) _ t7 Tryz.underlying37 rfl ir ?_)
    refine HKE.out.mono ?_
    rintro e w3 ⟨⟨c3, s3, k, code, rfl, hfo, hps, hsm⟩, hb⟩
    have u0 := row_below hb t0
    have i3 := info33s c3 hps.size
    have z3 : zS.size = c3.size := hps.size.symm
    have a3 := all_one hps.one
    have HB3 : Hid (Below w.heap.size w w3) := bel2 HB2.out hb
    have HX : Hid (FoE (n + 1) (s0 r) l s3 k code ∧ Sml (n + 1) s3 ∧ Ps (fun b => b ≠ w.heap.size) w3 (n + 1) c3 s3) := ⟨hfo, hsm, hps⟩
    clear hfo hps hsm hb t0 t7 HKE
    go_wp2_with (refine wpList_store_row rfl 37 _ _ rfl w.heap.size c3 rfl rfl 37 zS u0 i3 z3 a3 ?_)
    have k9 := setRow_heap w3 w.heap.size zS c3 37 (0, 0) u0
    have hl : (loadVar 37 ⟨w.heap.size, 0, none⟩).run Tryz.prog (w3.setRow w.heap.size c3) = .ok (.agg c3) (w3.setRow w.heap.size c3) := run_loadVar_row _ w.heap.size 37 37 c3 (0, 0) _ k9 Tryz.underlying37 rfl i3
    exact bodyPost_ret (v := .tuple #[.agg c3, .int .i64 (k : Int), .int .i64 code]) (ret_cell_tmp2 Tryz.results7 _ rfl rfl rfl hl) rfl (HQ.out c3 s3 k code _ (Ps.rs (HX.out.2.2.okk (ok' := fun _ => True) (fun _ _ _ => trivial) (fun b hb hf => setRow_other w3 _ _ _ hf))) HX.out.2.1 (.inl ⟨HR.out.1, HR.out.2, HX.out.1⟩) (below_setRow HB3.out (Nat.le_refl _) _))
  · obtain rfl := hu.2 hr
    have HR : Hid (¬ (1 ≤ r ∧ r ≤ 10)) := hr
    clear hu hr
    go_upto_region 2 with (refine wpList_store_row rfl 37 _ _ rfl w1.heap.size zS rfl rfl 37 zS n1 iz rfl oz ?_)
    rw [World.setRow_alloc_new]
    have hb := bel1 w1 (.cells zS 37)
    have t0 := row_below hb s0'
    have HB2 : Hid (Below w.heap.size w (w1.alloc (.cells zS 37))) := bel2 HB1.out hb
    clear hb s0' n1
    generalize w1.alloc (.cells zS 37) = W2 at t0 HB2 ⊢
    go_wp2_with (refine wpList_store_row rfl 37 _ _ rfl w.heap.size zS rfl rfl 37 zS t0 iz rfl oz ?_)
    have k9 := setRow_heap W2 w.heap.size zS zS 37 (0, 0) t0
    have hl : (loadVar 37 ⟨w.heap.size, 0, none⟩).run Tryz.prog (W2.setRow w.heap.size zS) = .ok (.agg zS) (W2.setRow w.heap.size zS) := run_loadVar_row _ w.heap.size 37 37 zS (0, 0) _ k9 Tryz.underlying37 rfl iz
    exact bodyPost_ret (v := .tuple #[.agg zS, .int .i64 ((0 : Nat) : Int), .int .i64 1]) (ret_cell_tmp2 Tryz.results7 _ rfl rfl rfl hl) rfl (HQ.out zS (s0 0) 0 1 _ (Ps.rs (s0_ps (fun _ => True) 0 _ n)) (sml0 n 0) (.inr ⟨HR.out, rfl, rfl, rfl⟩) (below_setRow HB2.out (Nat.le_refl _) _))
set_option maxHeartbeats 1000000 in
theorem few_calls (a : Option Addr) (m c : Nat) (w : World) : Calls Tryz.prog 4 #[.slice a m c] w fun e w' => e = .returned (.bool (decide (m ≤ 150))) ∧ Below w.heap.size w w' := by
  go_enter Tryz.func4, Tryz.ntmps4
  go_wp2_with fail
  go_ret
  have hd : decide ((m : Int) ≤ 150) = decide (m ≤ 150) := decide_eq_decide.2 (by omega)
  exact ⟨congrArg (fun b => Ending.returned (Value.bool b)) hd, Below.refl _ _⟩
end Go.Proofs.YtakaglfeeipeiaaGreat
namespace Go.Proofs.YtakaglfeeipeiaaGreat
open Go.ChangeShapes Go.WideShapes Go.ChangeAt Go.RowKit
/-- An event of this kind, number and name, with nothing else. -/
def zEn (k n : Int) (s : ByteArray) : Array Value := #[.int .i64 k, .int .i64 0, .int .i64 n, .int .i64 0, .string s, .int .i64 0, .int .i64 0, .int .u64 0, .string ⟨#[]⟩, .slice none 0 0, .int .i64 0, .int .u64 0, .int .i64 0]
def eN (k n : Int) (s : ByteArray) : Ev := ⟨k, 0, n, 0, s, zE, 0, 0, 0⟩
theorem eN_is (ok : Nat → Prop) (k n : Int) (s : ByteArray) (w : World) : IsEv (IsP ok w 1) (zEn k n s) (eN k n s) :=
  { size := rfl, c0 := rfl, c1 := rfl, c2 := rfl, c3 := rfl, c4 := rfl, v := ⟨0, 0, 0, ⟨#[]⟩, none, 0, 0, rfl, rfl, rfl, rfl, rfl, zE_isP _ w 0⟩, c10 := rfl, c11 := rfl, c12 := rfl }
def evA : List Ev := [eN 1 0 ⟨#[116]⟩, eN 2 1 ⟨#[]⟩, eN 3 0 ⟨#[]⟩]
def rowsA : List (Array Value) := [zEn 1 0 ⟨#[116]⟩, zEn 2 1 ⟨#[]⟩, zEn 3 0 ⟨#[]⟩]
def cellsA : Array Value := (rowsA.flatMap Array.toList).toArray
theorem mayA1 : MayE 1 (eN 1 0 ⟨#[116]⟩) := ⟨by decide +kernel, by decide +kernel, by decide +kernel, .inl ⟨by decide +kernel, zE_may⟩, by decide +kernel⟩
theorem mayA2 : MayE 1 (eN 2 1 ⟨#[]⟩) := ⟨by decide +kernel, by decide +kernel, by decide +kernel, .inr ⟨by decide +kernel, rfl⟩, by decide +kernel⟩
theorem mayA3 : MayE 1 (eN 3 0 ⟨#[]⟩) := ⟨by decide +kernel, by decide +kernel, by decide +kernel, .inr ⟨by decide +kernel, rfl⟩, by decide +kernel⟩
def sA1 : Sta := chg (s0 1) (eN 1 0 ⟨#[116]⟩)
def sA2 : Sta := chg sA1 (eN 2 1 ⟨#[]⟩)
def sA3 : Sta := chg sA2 (eN 3 0 ⟨#[]⟩)
theorem stA1 : StR 1 (s0 1) (eN 1 0 ⟨#[116]⟩) sA1 0 := ⟨fun _ => by decide +kernel, fun h => absurd mayA1 h, rfl⟩
theorem stA2 : StR 1 sA1 (eN 2 1 ⟨#[]⟩) sA2 0 := ⟨fun _ => by decide +kernel, fun h => absurd mayA2 h, rfl⟩
theorem stA3 : StR 1 sA2 (eN 3 0 ⟨#[]⟩) sA3 0 := ⟨fun _ => by decide +kernel, fun h => absurd mayA3 h, rfl⟩
theorem foA : FoE 1 (s0 1) evA sA3 3 0 := ⟨by decide, ⟨sA1, stA1, sA2, stA2, sA3, stA3, rfl⟩, .inl ⟨rfl, rfl⟩⟩
theorem sA3_ts : sA3.ts = 2 := by decide +kernel
theorem sA3_te : sA3.te = 3 := by decide +kernel
theorem rowsA_ev (ok : Nat → Prop) (w : World) (i : Nat) (r : Array Value) (e : Ev) (hr : rowsA[i]? = some r) (he : evA[i]? = some e) : IsEv (IsP ok w 1) r e := by
  match i, hr, he with
  | 0, hr, he => cases hr; cases he; exact eN_is ok _ _ _ w
  | 1, hr, he => cases hr; cases he; exact eN_is ok _ _ _ w
  | 2, hr, he => cases hr; cases he; exact eN_is ok _ _ _ w
  | _ + 3, hr, _ => simp [rowsA] at hr
theorem isL_A (w : World) : IsL (w.alloc (.cells cellsA 44)).heap.size (w.alloc (.cells cellsA 44)) 1 (some ⟨w.heap.size, 0, none⟩) evA := by
  have hk : ∀ (i : Nat) r, rowsA[i]? = some r → r.size = 13 := fun i r hr => by
    have hi : i < 3 := (List.getElem?_eq_some_iff.1 hr).1
    exact (rowsA_ev (fun _ => True) w i r _ hr (List.getElem?_eq_getElem hi)).size
  refine ⟨rowsA, rfl, fun i r hr => ?_, fun i r e hr he => rowsA_ev _ _ i r e hr he⟩
  have hi : i < 3 := (List.getElem?_eq_some_iff.1 hr).1
  refine ⟨hk i r hr, (rowsA_ev (fun _ => True) w i r _ hr (List.getElem?_eq_getElem hi)).one, w.heap.size, 0, rfl, by simp, fun j v hj => ?_⟩
  rw [Nat.zero_add]
  refine row_cell (heap_alloc_last w _) ?_
  have := flatS_put hk hr hj
  rw [cellsA, List.getElem?_toArray]
  exact this
theorem smL_A : SmL 1 evA := fun i e he => by
  match i, he with
  | 0, he => cases he; exact ⟨smallZ 0, by decide⟩
  | 1, he => cases he; exact ⟨smallZ 0, by decide⟩
  | 2, he => cases he; exact ⟨smallZ 0, by decide⟩
  | _ + 3, he => simp [evA] at he
set_option maxHeartbeats 2000000 in
set_option maxRecDepth 100000 in
theorem awake_calls (w : World) : Calls Tryz.prog 6 #[] w fun e w' => e = .returned (.bool true) ∧ Below w.heap.size w w' := by
  have KB : Hid (Calls Tryz.prog 7 #[.int .i64 1, .slice (some ⟨w.heap.size, 0, none⟩) 3 3] (w.alloc (.cells cellsA 44)) (BuP 0 1 evA (w.alloc (.cells cellsA 44)))) := build_calls 0 1 (some ⟨w.heap.size, 0, none⟩) 3 evA (w.alloc (.cells cellsA 44)) (isL_A w) smL_A (by decide)
  have HB0 : Hid (Below w.heap.size w (w.alloc (.cells cellsA 44))) := bel1 _ _
  have HQ : Hid (∀ w', Below w.heap.size w w' → (fun e w' => e = Ending.returned (.bool true) ∧ Below w.heap.size w w') (.returned (.bool true)) w') := fun w' h => ⟨rfl, h⟩
  generalize (fun e w' => e = Ending.returned (.bool true) ∧ Below w.heap.size w w') = Q at HQ ⊢
  go_enter Tryz.func6, Tryz.ntmps6
  go_wp2_with fail
  refine KB.out.mono ?_
  rintro e w1 ⟨⟨c1, s1, k, code, rfl, hrs, _, hfo⟩, hb⟩
  have hdet : s1 = sA3 ∧ k = 3 ∧ code = 0 := by
    rcases hfo with ⟨_, _, hfo⟩ | ⟨h, _⟩
    · exact hfo.det foA
    · exact absurd (by decide) h
  obtain ⟨rfl, rfl, rfl⟩ := hdet
  have c16 := hrs.c16
  have c19 := hrs.c19
  rw [sA3_ts] at c16
  rw [sA3_te] at c19
  have hi1 := info33s c1 hrs.size
  have z1 : zS.size = c1.size := hrs.size.symm
  have a1 := all_one hrs.one
  have n1 : (w1.alloc (.cells zS 37)).heap[w1.heap.size]? = some (.cells zS 37 (0, 0)) := heap_alloc_new w1 _
  have HB1 : Hid (Below w.heap.size w w1) := bel2 HB0.out hb
  clear hfo hrs hb KB HB0
  go_upto_region 2 with (refine wpList_store_row rfl 37 _ _ rfl w1.heap.size c1 rfl rfl 37 zS n1 hi1 z1 a1 ?_)
  rw [World.setRow_alloc_new]
  have HB2 : Hid (Below w.heap.size w (w1.alloc (.cells c1 37))) := bel2 HB1.out (bel1 _ _)
  have y16 : (w1.alloc (.cells c1 37)).cell? ⟨w1.heap.size, 16, none⟩ = some (.int .i64 2) := row_cell (heap_alloc_last w1 _) c16
  have y19 : (w1.alloc (.cells c1 37)).cell? ⟨w1.heap.size, 19, none⟩ = some (.int .i64 3) := row_cell (heap_alloc_last w1 _) c19
  generalize w1.alloc (.cells c1 37) = W2 at HB2 y16 y19 ⊢
  go_wp2_with fail
  exact HQ.out _ HB2.out
end Go.Proofs.YtakaglfeeipeiaaGreat
namespace Go.Proofs.YtakaglfeeipeiaaGreat
open Go.ChangeShapes Go.WideShapes Go.ChangeAt Go.RowKit
/-- From one number to another. -/
def wb (n lo hi : Int) : Bool := decide (lo ≤ n) && decide (n ≤ hi)
def eisName (q : ByteArray) : Ev := ⟨10, 0, 0, 0, q, zE, 0, 0, 0⟩
def eisText (q : ByteArray) : Ev := ⟨16, 0, 0, 0, q, zE, 0, 0, 0⟩
/-- The numbers of a state that can be. -/
def numB (s : Sta) : Bool := wb s.run 1 10 && (wb s.fr 0 10 && (wb s.status 1 6 && (wb s.count 1 120 && (wb s.sig 0 s.count && (wb s.time 0 1099511627776 && wb s.dl 0 2199023255552)))))
def tryB (a d : Int) : Bool := wb a 1 2147483648 && wb d 0 2199023255552
/-- What was started with may be. -/
def StartP (n : Nat) (s : Sta) : Prop := MayE n (eisName s.typ) ∧ May n s.inp ∧ may s.pf s.pc s.pm = true
def ResultP (n : Nat) (s : Sta) : Prop := if s.status = 2 then May n s.res else s.res = zE
def ReasonP (n : Nat) (s : Sta) : Prop := if s.status = 3 ∨ s.status = 5 then MayE n (eisText s.rea) else s.rea.toList = []
/-- An update's outcome goes with its stage. -/
def OutP (n : Nat) (u : Up) : Prop := if u.g = 1 then u.o = zE else if u.g = 2 then May n u.o else False
/-- What a state has by its status. -/
def EndP (n : Nat) (s : Sta) : Prop := (s.status = 1 ∨ (s.ts = 0 ∧ s.tm.length = 0)) ∧ ResultP n s ∧ ReasonP n s
/-- A task that may be. -/
def TaskP (s : Sta) : Prop := (s.ts = 0 ∧ s.ta = 0 ∧ s.td = 0 ∧ s.te = 0 ∧ s.tn = 0) ∨ (s.ts = 1 ∧ tryB s.ta s.td = true ∧ s.te = 0 ∧ s.tn = 0) ∨ (s.ts = 2 ∧ tryB s.ta s.td = true ∧ wb s.te 1 s.count = true ∧ s.tn = s.te)
/-- The order of texts. -/
theorem bl_asymm : ∀ a b : List UInt8, Op.bytesLess a b = true → Op.bytesLess b a = false
  | [], [], h => by simp [Op.bytesLess] at h
  | [], _ :: _, _ => rfl
  | _ :: _, [], h => by simp [Op.bytesLess] at h
  | a :: x, b :: y, h => by
    simp only [Op.bytesLess, Bool.or_eq_true, Bool.and_eq_true, decide_eq_true_eq, beq_iff_eq] at h
    simp only [Op.bytesLess, Bool.or_eq_false_iff, Bool.and_eq_false_iff, decide_eq_false_iff_not, beq_eq_false_iff_ne]
    rcases h with h | ⟨rfl, h⟩
    · exact ⟨fun h2 => by rw [UInt8.lt_iff_toNat_lt] at h h2; omega, .inl (fun e => by subst e; rw [UInt8.lt_iff_toNat_lt] at h; omega)⟩
    · exact ⟨fun h2 => by rw [UInt8.lt_iff_toNat_lt] at h2; omega, .inr (bl_asymm x y h)⟩
theorem bl_trans : ∀ a b c : List UInt8, Op.bytesLess a b = true → Op.bytesLess b c = true → Op.bytesLess a c = true
  | _, _, [], _, h => by simp [Op.bytesLess] at h
  | _, [], _ :: _, h, _ => by simp [Op.bytesLess] at h
  | [], _ :: _, _ :: _, _, _ => rfl
  | a :: x, b :: y, c :: z, h, g => by
    simp only [Op.bytesLess, Bool.or_eq_true, Bool.and_eq_true, decide_eq_true_eq, beq_iff_eq] at *
    rcases h with h | ⟨rfl, h⟩ <;> rcases g with g | ⟨rfl, g⟩
    · exact .inl (by rw [UInt8.lt_iff_toNat_lt] at *; omega)
    · exact .inl h
    · exact .inl g
    · exact .inr ⟨rfl, bl_trans x y z h g⟩
theorem bl_tri : ∀ a b : List UInt8, Op.bytesLess a b = false → a ≠ b → Op.bytesLess b a = true
  | [], [], _, h => absurd rfl h
  | [], _ :: _, h, _ => by simp [Op.bytesLess] at h
  | _ :: _, [], _, _ => rfl
  | a :: x, b :: y, h, hne => by
    simp only [Op.bytesLess, Bool.or_eq_false_iff, Bool.and_eq_false_iff, decide_eq_false_iff_not, beq_eq_false_iff_ne] at h
    simp only [Op.bytesLess, Bool.or_eq_true, Bool.and_eq_true, decide_eq_true_eq, beq_iff_eq]
    by_cases e : a = b
    · subst e
      refine .inr ⟨rfl, bl_tri x y ?_ (fun e => hne (by rw [e]))⟩
      rcases h.2 with h2 | h2
      · exact absurd rfl h2
      · exact h2
    · refine .inl ?_
      have h1 := h.1
      rw [UInt8.lt_iff_toNat_lt] at *
      have : a.toNat ≠ b.toNat := fun e2 => e (UInt8.toNat_inj.1 e2)
      omega
/-- Not above. -/
def leS (a b : ByteArray) : Bool := Op.bytesLess a.toList b.toList || a.toList == b.toList
theorem leS_gt (a b : ByteArray) : (!leS a b) = gtS a b := by unfold leS gtS; rw [Bool.not_or]
theorem lt_of_not {a b : ByteArray} (h : gtS a b = false) (he : eqS a b = false) : Op.bytesLess a.toList b.toList = true := by
  unfold gtS at h
  unfold eqS at he
  rw [he] at h
  simpa using h
theorem gt_of_lt {a b : ByteArray} (h : Op.bytesLess a.toList b.toList = true) : gtS b a = true := by
  unfold gtS
  rw [bl_asymm _ _ h]
  simp only [Bool.not_false, Bool.true_and, Bool.not_eq_eq_eq_not, Bool.not_true, beq_eq_false_iff_ne, ne_eq]
  intro e
  rw [e] at h
  have := bl_asymm _ _ h
  rw [h] at this
  cases this
theorem lt_of_gt {a b : ByteArray} (h : gtS b a = true) : Op.bytesLess a.toList b.toList = true := by
  unfold gtS at h
  simp only [Bool.and_eq_true, Bool.not_eq_eq_eq_not, Bool.not_true, beq_eq_false_iff_ne, ne_eq] at h
  exact bl_tri _ _ h.1 h.2
/-- A timer that may be behind last. -/
def TmP (n : Nat) (last : ByteArray) (t : Tm) : Prop := MayE n (eisName t.s) ∧ leS t.s last = false ∧ wb t.d 0 2199023255552 = true
/-- An update that may be behind last. -/
def UpP (n : Nat) (last : ByteArray) (u : Up) : Prop := MayE n (eisName u.s) ∧ leS u.s last = false ∧ May n u.v ∧ OutP n u
def RzT (n : Nat) : ByteArray → List Tm → Prop
  | _, [] => True
  | last, t :: l => TmP n last t ∧ RzT n t.s l
def RzU (n : Nat) : ByteArray → List Up → Prop
  | _, [] => True
  | last, u :: l => UpP n last u ∧ RzU n u.s l
def TimP (n : Nat) (l : List Tm) : Prop := l.length ≤ 10 ∧ RzT n ⟨#[]⟩ l
def UpdP (n : Nat) (l : List Up) : Prop := l.length ≤ 10 ∧ RzU n ⟨#[]⟩ l
/-- A state that can be. -/
structure CanP (n : Nat) (s : Sta) : Prop where
  num : numB s = true
  start : StartP n s
  ends : EndP n s
  task : TaskP s
  tim : TimP n s.tm
  upd : UpdP n s.up
/-- A chain of names that rise, all of which F holds. -/
def Rz {α : Type} (nm : α → ByteArray) (F : α → Prop) : ByteArray → List α → Prop
  | _, [] => True
  | last, t :: l => (leS (nm t) last = false ∧ F t) ∧ Rz nm F (nm t) l
def FT (n : Nat) (t : Tm) : Prop := MayE n (eisName t.s) ∧ wb t.d 0 2199023255552 = true
def FU (n : Nat) (u : Up) : Prop := MayE n (eisName u.s) ∧ May n u.v ∧ OutP n u
theorem rzT_iff (n : Nat) : ∀ (l : List Tm) (last : ByteArray), RzT n last l ↔ Rz Tm.s (FT n) last l
  | [], _ => Iff.rfl
  | _t :: l, _last => ⟨fun h => ⟨⟨h.1.2.1, h.1.1, h.1.2.2⟩, (rzT_iff n l _).1 h.2⟩, fun h => ⟨⟨h.1.2.1, h.1.1, h.1.2.2⟩, (rzT_iff n l _).2 h.2⟩⟩
theorem rzU_iff (n : Nat) : ∀ (l : List Up) (last : ByteArray), RzU n last l ↔ Rz Up.s (FU n) last l
  | [], _ => Iff.rfl
  | _t :: l, _last => ⟨fun h => ⟨⟨h.1.2.1, h.1.1, h.1.2.2⟩, (rzU_iff n l _).1 h.2⟩, fun h => ⟨⟨h.1.2.1, h.1.1, h.1.2.2⟩, (rzU_iff n l _).2 h.2⟩⟩
theorem lt_of_le {a b : ByteArray} (h : leS a b = false) : Op.bytesLess b.toList a.toList = true := lt_of_gt (by rw [← leS_gt, h]; rfl)
theorem le_of_lt {a b : ByteArray} (h : Op.bytesLess b.toList a.toList = true) : leS a b = false := by
  have := gt_of_lt h
  rw [← leS_gt] at this
  simpa using this
theorem leS_lower {a b c : ByteArray} (h : leS a b = false) (k : leS b c = false) : leS a c = false := le_of_lt (bl_trans _ _ _ (lt_of_le k) (lt_of_le h))
theorem Rz.lower {α : Type} {nm : α → ByteArray} {F : α → Prop} {a b : ByteArray} : ∀ {l : List α}, Rz nm F a l → leS a b = false → Rz nm F b l
  | [], _, _ => trivial
  | _ :: _, h, k => ⟨⟨leS_lower h.1.1 k, h.1.2⟩, h.2⟩
theorem Rz.del {α : Type} {nm : α → ByteArray} {F : α → Prop} : ∀ {l : List α} {last : ByteArray} (j : Nat), Rz nm F last l → Rz nm F last (delL l j)
  | [], _, j, _ => by simp [delL, Rz]
  | t :: l, last, 0, h => by
    have : delL (t :: l) 0 = l := by simp [delL]
    rw [this]
    exact h.2.lower h.1.1
  | t :: l, last, j + 1, h => by
    have : delL (t :: l) (j + 1) = t :: delL l j := by simp [delL]
    rw [this]
    exact ⟨h.1, h.2.del j⟩
theorem Rz.modify {α : Type} {nm : α → ByteArray} {F : α → Prop} {f : α → α} (hn : ∀ u, nm (f u) = nm u) (hf : ∀ u, F u → F (f u)) : ∀ {l : List α} {last : ByteArray} (j : Nat), Rz nm F last l → Rz nm F last (l.modify j f)
  | [], _, j, _ => by simp [Rz]
  | t :: l, last, 0, h => by
    rw [List.modify_zero_cons]
    exact ⟨⟨by rw [hn]; exact h.1.1, hf t h.1.2⟩, by rw [hn]; exact h.2⟩
  | t :: l, last, j + 1, h => by
    rw [List.modify_succ_cons]
    exact ⟨h.1, Rz.modify hn hf j h.2⟩
theorem insL_cons {α : Type} (P : α → Bool) (y : α) (l : List α) (x : α) : insL P (y :: l) x = if P y then x :: y :: l else y :: insL P l x := by
  cases hp : P y with
  | true =>
    have e : ixI P (y :: l) = ((0 : Nat) : Int) := ixI_some (j := 0) (d := y) rfl hp (fun q d hq => absurd hq (Nat.not_lt_zero _))
    have : insI P (y :: l) = 0 := by unfold insI; rw [e]; simp
    unfold insL
    rw [this]
    simp
  | false =>
    have : insI P (y :: l) = insI P l + 1 := by
      rcases ixI_cases P l with ⟨j, d, h1, h2, h3, h4⟩ | ⟨h1, h2⟩
      · have e : ixI P (y :: l) = ((j + 1 : Nat) : Int) := ixI_some (j := j + 1) (d := d) (by simpa using h2) h3 (fun q d' hq hd => by
          cases q with
          | zero => simp at hd; rw [← hd]; exact hp
          | succ q => exact h4 q d' (by omega) (by simpa using hd))
        unfold insI
        rw [e, h1, if_neg (by omega), if_neg (by omega)]
        omega
      · have e : ixI P (y :: l) = -1 := ixI_none (fun d hd => by
          rcases List.mem_cons.1 hd with rfl | hd
          · exact hp
          · exact h2 d hd)
        unfold insI
        rw [e, h1, if_pos (by decide), if_pos (by decide)]
        simp
    unfold insL
    rw [this]
    simp
theorem Rz.ins {α : Type} {nm : α → ByteArray} {F : α → Prop} {x : α} : ∀ {l : List α} {last : ByteArray}, Rz nm F last l → (∀ y ∈ l, eqS (nm y) (nm x) = false) → leS (nm x) last = false → F x → Rz nm F last (insL (fun d => gtS (nm d) (nm x)) l x)
  | [], last, _, _, h1, h2 => by
    have : insL (fun d => gtS (nm d) (nm x)) [] x = [x] := by simp [insL, insI]
    rw [this]
    exact ⟨⟨h1, h2⟩, trivial⟩
  | y :: l, last, h, he, h1, h2 => by
    rw [insL_cons]
    cases hg : gtS (nm y) (nm x) with
    | true =>
      rw [if_pos rfl]
      refine ⟨⟨h1, h2⟩, ⟨?_, h.1.2⟩, h.2⟩
      rw [← leS_gt] at hg
      simpa using hg
    | false =>
      rw [if_neg (by simp)]
      have l1 := lt_of_not hg (he y (List.mem_cons_self ..))
      exact ⟨h.1, Rz.ins h.2 (fun z hz => he z (List.mem_cons_of_mem _ hz)) (le_of_lt l1) h2⟩
theorem nmf_name (q : ByteArray) : nmf 10 q = nmB q := by simp [nmf, show hM 10 = true from by decide]
theorem nmf_text (q : ByteArray) : nmf 16 q = decide (q.size ≤ 200) := by simp [nmf, show hM 16 = false from by decide, show hT 16 = true from by decide]
theorem name_iff (n : Nat) (q : ByteArray) : MayE n (eisName q) ↔ nmB q = true := by
  constructor
  · intro h
    have := h.2.2.1
    rwa [show nmf (eisName q).k (eisName q).s = nmB q from nmf_name q] at this
  · intro h
    exact ⟨(by decide : wi 10 1 19 = true), (by decide : nf 10 0 0 0 = true), (nmf_name q).trans h, .inr ⟨(by decide : hV 10 = false), rfl⟩, (by decide : pf 10 0 0 0 = true)⟩
theorem text_iff (n : Nat) (q : ByteArray) : MayE n (eisText q) ↔ q.size ≤ 200 := by
  constructor
  · intro h
    have := h.2.2.1
    rw [show nmf (eisText q).k (eisText q).s = decide (q.size ≤ 200) from nmf_text q] at this
    exact of_decide_eq_true this
  · intro h
    exact ⟨(by decide : wi 16 1 19 = true), (by decide : nf 16 0 0 0 = true), (nmf_text q).trans (decide_eq_true h), .inr ⟨(by decide : hV 16 = false), rfl⟩, (by decide : pf 16 0 0 0 = true)⟩
theorem numB_iff (s : Sta) : numB s = true ↔ (1 ≤ s.run ∧ s.run ≤ 10) ∧ (0 ≤ s.fr ∧ s.fr ≤ 10) ∧ (1 ≤ s.status ∧ s.status ≤ 6) ∧ (1 ≤ s.count ∧ s.count ≤ 120) ∧ (0 ≤ s.sig ∧ s.sig ≤ s.count) ∧ (0 ≤ s.time ∧ s.time ≤ 1099511627776) ∧ (0 ≤ s.dl ∧ s.dl ≤ 2199023255552) := by
  simp [numB, wb]
theorem nf_iff (k t n d : Int) : nf k t n d = true ↔ (0 ≤ t ∧ t ≤ 1099511627776) ∧ (nl k ≤ n ∧ n ≤ nm k) ∧ (0 ≤ d ∧ d ≤ (if hD k then 2199023255552 else 0)) := by
  simp [nf, wi, and_assoc]
theorem wr_add {c : Int} (h0 : 0 ≤ c) (h : c ≤ 1000) : wrap64 (c + 1) = c + 1 := by unfold wrap64; omega
theorem task_up {s : Sta} {c : Int} (h : TaskP s) (hc : s.count ≤ c) : TaskP { s with count := c } := by
  rcases h with h | h | ⟨h1, h2, h3, h4⟩
  · exact .inl h
  · exact .inr (.inl h)
  · refine .inr (.inr ⟨h1, h2, ?_, h4⟩)
    simp [wb] at h3 ⊢
    omega
/-- What is known of a state that can be, and of an event that may come. -/
structure Kn (n : Nat) (s : Sta) (x : Ev) : Prop where
  can : CanP n s
  may : MayE n x
  fits : fitsB s x = true
  room : roomB s x = true
  cnt : s.count < 120
  st : s.status = 1
  k1 : x.k ≠ 1
theorem kn_of {n : Nat} {s : Sta} {x : Ev} (h : CanP n s) (hm : MayE n x) (hr : refC s x = 0) : Kn n s x := by
  obtain ⟨h1, h2, h3, h4, _⟩ := refC_fits hr
  have hn := (numB_iff s).1 h.num
  unfold inT at h4
  by_cases hk : x.k = 1
  · rw [if_pos hk] at h4
    have : s.count = 0 := by simpa using h4
    omega
  · rw [if_neg hk] at h4
    simp at h4
    exact ⟨h, hm, h1, h2, h3, h4.2, hk⟩
theorem Kn.ends {n : Nat} {s : Sta} {x : Ev} (h : Kn n s x) : s.res = zE ∧ s.rea.toList = [] := by
  have h1 := h.can.ends.2.1
  have h2 := h.can.ends.2.2
  unfold ResultP at h1
  unfold ReasonP at h2
  rw [h.st] at h1 h2
  exact ⟨by simpa using h1, by simpa using h2⟩
theorem Kn.num {n : Nat} {s : Sta} {x : Ev} (h : Kn n s x) : wrap64 (s.count + 1) = s.count + 1 ∧ (0 ≤ x.t ∧ x.t ≤ 1099511627776) ∧ (nl x.k ≤ x.n ∧ x.n ≤ nm x.k) ∧ (0 ≤ x.d ∧ x.d ≤ (if hD x.k then 2199023255552 else 0)) := by
  have hn := (numB_iff s).1 h.can.num
  exact ⟨wr_add (by omega) (by omega), (nf_iff _ _ _ _).1 h.may.2.1⟩
/-- The numbers, where the run goes on and nothing but count, time, signals and from is another one. -/
theorem Kn.numG {n : Nat} {s s' : Sta} {x : Ev} (h : Kn n s x) (e1 : s'.run = s.run) (e2 : s'.fr = s.fr ∨ (0 ≤ s'.fr ∧ s'.fr ≤ 10)) (e3 : 1 ≤ s'.status ∧ s'.status ≤ 6) (e4 : s'.count = wrap64 (s.count + 1)) (e5 : s'.sig = s.sig ∨ s'.sig = wrap64 (s.sig + 1)) (e6 : s'.time = x.t) (e7 : s'.dl = s.dl) : numB s' = true := by
  have hn := (numB_iff s).1 h.can.num
  obtain ⟨w1, w2, _, _⟩ := h.num
  have w3 : wrap64 (s.sig + 1) = s.sig + 1 := wr_add (by omega) (by omega)
  have := h.cnt
  rw [numB_iff, e1, e4, e6, e7, w1]
  refine ⟨hn.1, ?_, e3, by omega, ?_, w2, hn.2.2.2.2.2.2⟩
  · rcases e2 with e | e
    · rw [e]; exact hn.2.1
    · exact e
  · rcases e5 with e | e
    · rw [e]; omega
    · rw [e, w3]; omega
theorem Kn.task {n : Nat} {s : Sta} {x : Ev} (h : Kn n s x) (s' : Sta) (e0 : s'.ts = s.ts) (e1 : s'.ta = s.ta) (e2 : s'.td = s.td) (e3 : s'.te = s.te) (e4 : s'.tn = s.tn) (e5 : s'.count = wrap64 (s.count + 1)) : TaskP s' := by
  have w1 := h.num.1
  have ht := h.can.task
  unfold TaskP at *
  rw [e0, e1, e2, e3, e4, e5, w1]
  rcases ht with h | h | ⟨h1, h2, h3, h4⟩
  · exact .inl h
  · exact .inr (.inl h)
  · refine .inr (.inr ⟨h1, h2, ?_, h4⟩)
    simp [wb] at h3 ⊢
    omega
theorem hasName {n : Nat} {x : Ev} (h : MayE n x) (hk : hM x.k = true) : MayE n (eisName x.s) := by
  rw [name_iff]
  have := h.2.2.1
  unfold nmf at this
  rwa [hk] at this
theorem hasText {n : Nat} {x : Ev} (h : MayE n x) (hk : hM x.k = false) (ht : hT x.k = true) : MayE n (eisText x.s) := by
  rw [text_iff]
  have := h.2.2.1
  unfold nmf at this
  rw [hk, ht] at this
  simpa using this
theorem hasValue {n : Nat} {x : Ev} (h : MayE n x) (hk : hV x.k = true) : May n x.v := by
  rcases h.2.2.2.1 with h | h
  · exact h.2
  · rw [hk] at h; cases h.1
theorem empty_le {q : ByteArray} (h : nmB q = true) : leS q ⟨#[]⟩ = false := by
  have h1 : 1 ≤ q.size := by
    unfold nmB at h
    simp at h
    exact h.1.1
  have hl : q.toList.length = q.size := by rw [ByteArray.toList_eq]; exact Array.length_toList
  have he : (⟨#[]⟩ : ByteArray).toList = [] := by rw [ByteArray.toList_eq]
  unfold leS
  rw [he]
  cases hq : q.toList with
  | nil => rw [hq] at hl; simp at hl; omega
  | cons a l => rfl
theorem Kn.end0 {n : Nat} {s : Sta} {x : Ev} (h : Kn n s x) (s' : Sta) (e1 : s'.status = s.status) (e2 : s'.res = s.res) (e3 : s'.rea = s.rea) : EndP n s' := by
  have := h.can.ends
  unfold EndP ResultP ReasonP at *
  rw [e1, e2, e3]
  exact ⟨.inl h.st, this.2⟩
theorem Kn.keep {n : Nat} {s : Sta} {x : Ev} (h : Kn n s x) (s' : Sta) (hn : numB s' = true) (a1 : s'.typ = s.typ) (a2 : s'.inp = s.inp) (a3 : s'.pf = s.pf) (a4 : s'.pc = s.pc) (a5 : s'.pm = s.pm) (he : EndP n s') (ht : TaskP s') (h5 : TimP n s'.tm) (h6 : UpdP n s'.up) : CanP n s' :=
  ⟨hn, by have := h.can.start; unfold StartP at *; rw [a1, a2, a3, a4, a5]; exact this, he, ht, h5, h6⟩
theorem task_zero (s' : Sta) (h0 : s'.ts = 0) (h1 : s'.ta = 0) (h2 : s'.td = 0) (h3 : s'.te = 0) (h4 : s'.tn = 0) : TaskP s' := .inl ⟨h0, h1, h2, h3, h4⟩
theorem tim_nil (n : Nat) : TimP n [] := ⟨by decide, trivial⟩
theorem can_2 {n : Nat} {s : Sta} {x : Ev} (h : Kn n s x) (hk : x.k = 2) : CanP n (ch2 s x) := by
  obtain ⟨_, _, h1, h3⟩ := h.num
  rw [hk] at h1 h3
  have h2 : ((1 ≤ x.n ∧ x.n ≤ 2147483648) ∧ (0 ≤ x.d ∧ x.d ≤ 2199023255552)) := ⟨⟨h1.1, h1.2⟩, ⟨h3.1, h3.2⟩⟩
  exact h.keep _ (h.numG rfl (.inl rfl) (by show 1 ≤ s.status ∧ s.status ≤ 6; rw [h.st]; decide) rfl (.inl rfl) rfl rfl) rfl rfl rfl rfl rfl (h.end0 _ rfl rfl rfl) (.inr (.inl ⟨rfl, by show tryB x.n x.d = true; simpa [tryB, wb] using h2, rfl, rfl⟩)) h.can.tim h.can.upd
theorem can_3 {n : Nat} {s : Sta} {x : Ev} (h : Kn n s x) (hk : x.k = 3) : CanP n (ch3 s x) := by
  obtain ⟨w1, _, _, h3⟩ := h.num
  rw [hk] at h3
  have hf := h.fits
  unfold fitsB at hf
  rw [hk] at hf
  have hts : s.ts = 1 := by simpa using hf
  have hn := (numB_iff s).1 h.can.num
  have h4 : tryB s.ta x.d = true := by
    rcases h.can.task with ⟨e, _⟩ | ⟨_, e, _⟩ | ⟨e, _⟩
    · omega
    · simp only [tryB, wb, Bool.and_eq_true, decide_eq_true_eq] at e ⊢
      exact ⟨e.1, h3.1, h3.2⟩
    · omega
  have h5 : wb (wrap64 (s.count + 1)) 1 (wrap64 (s.count + 1)) = true := by
    rw [w1]
    simp [wb]
    omega
  exact h.keep _ (h.numG rfl (.inl rfl) (by show 1 ≤ s.status ∧ s.status ≤ 6; rw [h.st]; decide) rfl (.inl rfl) rfl rfl) rfl rfl rfl rfl rfl (h.end0 _ rfl rfl rfl) (.inr (.inr ⟨rfl, h4, h5, rfl⟩)) h.can.tim h.can.upd
theorem can_4 {n : Nat} {s : Sta} {x : Ev} (h : Kn n s x) : CanP n (ch4 s x) := by
  exact h.keep _ (h.numG rfl (.inl rfl) (by show 1 ≤ s.status ∧ s.status ≤ 6; rw [h.st]; decide) rfl (.inl rfl) rfl rfl) rfl rfl rfl rfl rfl (h.end0 _ rfl rfl rfl) (task_zero _ rfl rfl rfl rfl rfl) h.can.tim h.can.upd
theorem can_5 {n : Nat} {s : Sta} {x : Ev} (h : Kn n s x) (hk : x.k = 4 ∨ x.k = 5 ∨ x.k = 6) (hp : 0 < x.n) : CanP n (ch5 s x) := by
  obtain ⟨_, _, h1, _⟩ := h.num
  have h2 : x.n ≤ 10 := by
    rcases hk with e | e | e
    · rw [e] at h1; simp [nm] at h1; omega
    · rw [e] at h1; exact h1.2
    · rw [e] at h1; simp [nm] at h1; omega
  exact h.keep _ (h.numG rfl (.inr ⟨by show 0 ≤ x.n; omega, h2⟩) (by show 1 ≤ s.status ∧ s.status ≤ 6; rw [h.st]; decide) rfl (.inl rfl) rfl rfl) rfl rfl rfl rfl rfl (h.end0 _ rfl rfl rfl) (task_zero _ rfl rfl rfl rfl rfl) h.can.tim h.can.upd
theorem can_7 {n : Nat} {s : Sta} {x : Ev} (h : Kn n s x) : CanP n (ch7 s x) := by
  exact h.keep _ (h.numG rfl (.inl rfl) (by show 1 ≤ s.status ∧ s.status ≤ 6; rw [h.st]; decide) rfl (.inr rfl) rfl rfl) rfl rfl rfl rfl rfl (h.end0 _ rfl rfl rfl) (h.task _ rfl rfl rfl rfl rfl rfl) h.can.tim h.can.upd
theorem can_8 {n : Nat} {s : Sta} {x : Ev} (h : Kn n s x) : CanP n (ch8 s x) := by
  exact h.keep _ (h.numG rfl (.inl rfl) (by show 1 ≤ s.status ∧ s.status ≤ 6; rw [h.st]; decide) rfl (.inl rfl) rfl rfl) rfl rfl rfl rfl rfl (h.end0 _ rfl rfl rfl) (h.task _ rfl rfl rfl rfl rfl rfl) h.can.tim h.can.upd
theorem can_14 {n : Nat} {s : Sta} {x : Ev} (h : Kn n s x) : CanP n (ch14 s x) := by
  exact h.keep _ (h.numG rfl (.inl rfl) (by show 1 ≤ s.status ∧ s.status ≤ 6; rw [h.st]; decide) rfl (.inl rfl) rfl rfl) rfl rfl rfl rfl rfl (h.end0 _ rfl rfl rfl) (h.task _ rfl rfl rfl rfl rfl rfl) h.can.tim h.can.upd
theorem can_9 {n : Nat} {s : Sta} {x : Ev} (h : Kn n s x) (hk : x.k = 9) : CanP n (ch9 s x) := by
  have hr := h.room
  unfold roomB at hr
  rw [hk] at hr
  have hl : s.tm.length < 10 := by simpa using hr
  have hf := h.fits
  unfold fitsB at hf
  rw [hk] at hf
  have hne : ∀ y ∈ s.tm, eqS y.s x.s = false := by
    rcases ixI_cases (fun d => eqS d.s x.s) s.tm with ⟨j, d, e1, _⟩ | ⟨_, e2⟩
    · have : tmAt s x.s < 0 := by simpa using hf
      unfold tmAt at this
      omega
    · exact e2
  obtain ⟨_, _, _, h3⟩ := h.num
  rw [hk] at h3
  have hnm := hasName h.may (by rw [hk]; decide)
  have h9 : TimP n (insL (fun d => gtS d.s x.s) s.tm ⟨x.s, x.d⟩) := by
    refine ⟨by rw [insL_length]; omega, (rzT_iff n _ _).2 ?_⟩
    exact Rz.ins (nm := Tm.s) (x := ⟨x.s, x.d⟩) ((rzT_iff n _ _).1 h.can.tim.2) hne (empty_le ((name_iff n _).1 hnm)) ⟨hnm, by simp only [wb, Bool.and_eq_true, decide_eq_true_eq]; exact ⟨h3.1, h3.2⟩⟩
  exact h.keep _ (h.numG rfl (.inl rfl) (by show 1 ≤ s.status ∧ s.status ≤ 6; rw [h.st]; decide) rfl (.inl rfl) rfl rfl) rfl rfl rfl rfl rfl (h.end0 _ rfl rfl rfl) (h.task _ rfl rfl rfl rfl rfl rfl) h9 h.can.upd
theorem tim_del {n : Nat} {l : List Tm} (h : TimP n l) (j : Nat) : TimP n (delL l j) := by
  refine ⟨?_, (rzT_iff n _ _).2 (Rz.del j ((rzT_iff n _ _).1 h.2))⟩
  have := h.1
  simp [delL]
  omega
theorem can_10 {n : Nat} {s : Sta} {x : Ev} (h : Kn n s x) : CanP n (ch10 s x) := by
  exact h.keep _ (h.numG rfl (.inl rfl) (by show 1 ≤ s.status ∧ s.status ≤ 6; rw [h.st]; decide) rfl (.inl rfl) rfl rfl) rfl rfl rfl rfl rfl (h.end0 _ rfl rfl rfl) (h.task _ rfl rfl rfl rfl rfl rfl) (tim_del h.can.tim _) h.can.upd
theorem can_11 {n : Nat} {s : Sta} {x : Ev} (h : Kn n s x) : CanP n (ch11 s x) := by
  exact h.keep _ (h.numG rfl (.inl rfl) (by show 1 ≤ s.status ∧ s.status ≤ 6; rw [h.st]; decide) rfl (.inl rfl) rfl rfl) rfl rfl rfl rfl rfl (h.end0 _ rfl rfl rfl) (h.task _ rfl rfl rfl rfl rfl rfl) (tim_del h.can.tim _) h.can.upd
theorem can_12 {n : Nat} {s : Sta} {x : Ev} (h : Kn n s x) (hk : x.k = 12) : CanP n (ch12 s x) := by
  have hr := h.room
  unfold roomB at hr
  rw [hk] at hr
  have hl : s.up.length < 10 := by simpa using hr
  have hf := h.fits
  unfold fitsB at hf
  rw [hk] at hf
  have hne : ∀ y ∈ s.up, eqS y.s x.s = false := by
    rcases ixI_cases (fun d => eqS d.s x.s) s.up with ⟨j, d, e1, _⟩ | ⟨_, e2⟩
    · have : upAt s x.s < 0 := by simpa using hf
      unfold upAt at this
      omega
    · exact e2
  have hnm := hasName h.may (by rw [hk]; decide)
  have h12 : UpdP n (insL (fun d => gtS d.s x.s) s.up ⟨x.s, x.v, 1, zE⟩) := by
    refine ⟨by rw [insL_length]; omega, (rzU_iff n _ _).2 ?_⟩
    exact Rz.ins (nm := Up.s) (x := ⟨x.s, x.v, 1, zE⟩) ((rzU_iff n _ _).1 h.can.upd.2) hne (empty_le ((name_iff n _).1 hnm)) ⟨hnm, hasValue h.may (by rw [hk]; decide), by unfold OutP; rw [if_pos rfl]⟩
  exact h.keep _ (h.numG rfl (.inl rfl) (by show 1 ≤ s.status ∧ s.status ≤ 6; rw [h.st]; decide) rfl (.inl rfl) rfl rfl) rfl rfl rfl rfl rfl (h.end0 _ rfl rfl rfl) (h.task _ rfl rfl rfl rfl rfl rfl) h.can.tim h12
theorem can_13 {n : Nat} {s : Sta} {x : Ev} (h : Kn n s x) (hk : x.k = 13) : CanP n (ch13 s x) := by
  have hv := hasValue h.may (by rw [hk]; decide)
  have h13 : UpdP n (s.up.modify (waAt s x.s).toNat (fun u => { u with g := 2, o := x.v })) := by
    refine ⟨by rw [List.length_modify]; exact h.can.upd.1, (rzU_iff n _ _).2 ?_⟩
    exact Rz.modify (f := fun u => { u with g := 2, o := x.v }) (fun _ => rfl) (fun u hu => ⟨hu.1, hu.2.1, by unfold OutP; rw [if_neg (by show ¬ (2 : Int) = 1; decide), if_pos rfl]; exact hv⟩) _ ((rzU_iff n _ _).1 h.can.upd.2)
  exact h.keep _ (h.numG rfl (.inl rfl) (by show 1 ≤ s.status ∧ s.status ≤ 6; rw [h.st]; decide) rfl (.inl rfl) rfl rfl) rfl rfl rfl rfl rfl (h.end0 _ rfl rfl rfl) (h.task _ rfl rfl rfl rfl rfl rfl) h.can.tim h13
theorem can_15 {n : Nat} {s : Sta} {x : Ev} (h : Kn n s x) (hk : x.k = 15) : CanP n (ch15 s x) := by
  have he := h.ends
  exact h.keep _ (h.numG rfl (.inl rfl) ⟨by show 1 ≤ (2 : Int); decide, by show (2 : Int) ≤ 6; decide⟩ rfl (.inl rfl) rfl rfl) rfl rfl rfl rfl rfl ⟨.inr ⟨rfl, rfl⟩, (by unfold ResultP; rw [if_pos (by rfl)]; exact hasValue h.may (by rw [hk]; decide)), (by unfold ReasonP; rw [if_neg (by show ¬ ((2 : Int) = 3 ∨ (2 : Int) = 5); decide)]; exact he.2)⟩ (task_zero _ rfl rfl rfl rfl rfl) (tim_nil n) h.can.upd
theorem can_16 {n : Nat} {s : Sta} {x : Ev} (h : Kn n s x) (hk : x.k = 16) : CanP n (ch16 s x) := by
  have he := h.ends
  exact h.keep _ (h.numG rfl (.inl rfl) ⟨by show 1 ≤ (3 : Int); decide, by show (3 : Int) ≤ 6; decide⟩ rfl (.inl rfl) rfl rfl) rfl rfl rfl rfl rfl ⟨.inr ⟨rfl, rfl⟩, (by unfold ResultP; rw [if_neg (by show ¬ (3 : Int) = 2; decide)]; exact he.1), (by unfold ReasonP; rw [if_pos (by show (3 : Int) = 3 ∨ (3 : Int) = 5; decide)]; exact hasText h.may (by rw [hk]; decide) (by rw [hk]; decide))⟩ (task_zero _ rfl rfl rfl rfl rfl) (tim_nil n) h.can.upd
theorem can_17 {n : Nat} {s : Sta} {x : Ev} (h : Kn n s x) (_hk : x.k = 17) : CanP n (ch17 s x) := by
  have he := h.ends
  exact h.keep _ (h.numG rfl (.inl rfl) ⟨by show 1 ≤ (4 : Int); decide, by show (4 : Int) ≤ 6; decide⟩ rfl (.inl rfl) rfl rfl) rfl rfl rfl rfl rfl ⟨.inr ⟨rfl, rfl⟩, (by unfold ResultP; rw [if_neg (by show ¬ (4 : Int) = 2; decide)]; exact he.1), (by unfold ReasonP; rw [if_neg (by show ¬ ((4 : Int) = 3 ∨ (4 : Int) = 5); decide)]; exact he.2)⟩ (task_zero _ rfl rfl rfl rfl rfl) (tim_nil n) h.can.upd
theorem can_18 {n : Nat} {s : Sta} {x : Ev} (h : Kn n s x) (hk : x.k = 18) : CanP n (ch18 s x) := by
  have he := h.ends
  exact h.keep _ (h.numG rfl (.inl rfl) ⟨by show 1 ≤ (5 : Int); decide, by show (5 : Int) ≤ 6; decide⟩ rfl (.inl rfl) rfl rfl) rfl rfl rfl rfl rfl ⟨.inr ⟨rfl, rfl⟩, (by unfold ResultP; rw [if_neg (by show ¬ (5 : Int) = 2; decide)]; exact he.1), (by unfold ReasonP; rw [if_pos (by show (5 : Int) = 3 ∨ (5 : Int) = 5; decide)]; exact hasText h.may (by rw [hk]; decide) (by rw [hk]; decide))⟩ (task_zero _ rfl rfl rfl rfl rfl) (tim_nil n) h.can.upd
theorem can_19 {n : Nat} {s : Sta} {x : Ev} (h : Kn n s x) (_hk : x.k = 19) : CanP n (ch19 s x) := by
  have he := h.ends
  exact h.keep _ (h.numG rfl (.inl rfl) ⟨by show 1 ≤ (6 : Int); decide, by show (6 : Int) ≤ 6; decide⟩ rfl (.inl rfl) rfl rfl) rfl rfl rfl rfl rfl ⟨.inr ⟨rfl, rfl⟩, (by unfold ResultP; rw [if_neg (by show ¬ (6 : Int) = 2; decide)]; exact he.1), (by unfold ReasonP; rw [if_neg (by show ¬ ((6 : Int) = 3 ∨ (6 : Int) = 5); decide)]; exact he.2)⟩ (task_zero _ rfl rfl rfl rfl rfl) (tim_nil n) h.can.upd
theorem can_stays {n : Nat} {s : Sta} {x : Ev} (hc : CanP n s) (hm : MayE n x) (hr : refC s x = 0) : CanP n (chg s x) := by
  have h := kn_of hc hm hr
  have hk := hm.kind
  have h1 := h.k1
  have hcase : x.k = 2 ∨ x.k = 3 ∨ (x.k = 4 ∨ x.k = 5 ∨ x.k = 6) ∨ x.k = 7 ∨ x.k = 8 ∨ x.k = 9 ∨ x.k = 10 ∨ x.k = 11 ∨ x.k = 12 ∨ x.k = 13 ∨ x.k = 14 ∨ x.k = 15 ∨ x.k = 16 ∨ x.k = 17 ∨ x.k = 18 ∨ x.k = 19 := by omega
  rcases hcase with e | e | e | e | e | e | e | e | e | e | e | e | e | e | e | e
  · rw [chg_2 s x e]; exact can_2 h e
  · rw [chg_3 s x e]; exact can_3 h e
  · rw [chg_from s x e]
    by_cases hp : 0 < x.n
    · rw [if_pos hp]; exact can_5 h e hp
    · rw [if_neg hp]; exact can_4 h
  · rw [chg_7 s x e]; exact can_7 h
  · rw [chg_8 s x e]; exact can_8 h
  · rw [chg_9 s x e]; exact can_9 h e
  · rw [chg_10 s x e]; exact can_10 h
  · rw [chg_11 s x e]; exact can_11 h
  · rw [chg_12 s x e]; exact can_12 h e
  · rw [chg_13 s x e]; exact can_13 h e
  · rw [chg_14 s x e]; exact can_14 h
  · rw [chg_15 s x e]; exact can_15 h e
  · rw [chg_16 s x e]; exact can_16 h e
  · rw [chg_17 s x e]; exact can_17 h e
  · rw [chg_18 s x e]; exact can_18 h e
  · rw [chg_19 s x e]; exact can_19 h e
/-- A run that has not begun. -/
def sta0 (r : Int) : Sta := ⟨r, 0, 0, 0, 0, 0, 0, ⟨#[]⟩, zE, 0, 0, 0, 0, 0, 0, 0, 0, false, false, [], [], zE, ⟨#[]⟩⟩
theorem can_begins {n : Nat} {r : Int} {x : Ev} (h1 : 1 ≤ r) (h2 : r ≤ 10) (hm : MayE n x) (hr : refC (sta0 r) x = 0) : CanP n (chg (sta0 r) x) := by
  obtain ⟨_, _, _, h4, _⟩ := refC_fits hr
  have hk : x.k = 1 := by
    by_cases hk : x.k = 1
    · exact hk
    · unfold inT at h4
      rw [if_neg hk] at h4
      simp [sta0] at h4
  have hf := (nf_iff _ _ _ _).1 hm.2.1
  rw [hk] at hf
  obtain ⟨f1, _, f3⟩ := hf
  have f4 : x.d ≤ 2199023255552 := f3.2
  rw [chg_1 _ x hk]
  refine ⟨?_, ⟨hasName hm (by rw [hk]; decide), hasValue hm (by rw [hk]; decide), ?_⟩, ⟨.inl rfl, ?_, ?_⟩, task_zero _ rfl rfl rfl rfl rfl, tim_nil n, ⟨Nat.zero_le _, trivial⟩⟩
  · rw [numB_iff]
    have w : wrap64 ((0 : Int) + 1) = 1 := wr_add (by decide) (by decide)
    exact ⟨⟨h1, h2⟩, ⟨by show (0 : Int) ≤ 0; decide, by show (0 : Int) ≤ 10; decide⟩, ⟨by show (1 : Int) ≤ 1; decide, by show (1 : Int) ≤ 6; decide⟩, ⟨by show 1 ≤ wrap64 (0 + 1); rw [w]; decide, by show wrap64 (0 + 1) ≤ 120; rw [w]; decide⟩, ⟨by show (0 : Int) ≤ 0; decide, by show 0 ≤ wrap64 (0 + 1); rw [w]; decide⟩, f1, ⟨f3.1, f4⟩⟩
  · have := hm.2.2.2.2
    unfold pf at this
    rw [hk] at this
    rw [show hP 1 = true from by decide] at this
    exact this
  · unfold ResultP
    rw [if_neg (by show ¬ (1 : Int) = 2; decide)]
    rfl
  · unfold ReasonP
    rw [if_neg (by show ¬ ((1 : Int) = 3 ∨ (1 : Int) = 5); decide)]
    show (⟨#[]⟩ : ByteArray).toList = []
    rw [ByteArray.toList_eq]
end Go.Proofs.YtakaglfeeipeiaaGreat
