/- The contracts of the closures of Decode. -/
import Derived.Test.YtomkoajhjijplaaBI
namespace Go.Proofs.Ytomkoajhjijplaa
open Go.ChangeShapes Go.WideShapes Go.ChangeAt Go.RowKit
theorem num_top {m : Int} (hm : 0 ≤ m) (l : List UInt8) (e : Int) : (sNum m l e).1 ≤ m := by
  unfold sNum
  split
  · split
    · split
      · simpa using hm
      · simp; omega
    · simpa using hm
  · simpa using hm
/-- A reader stays, while its two blocks do. -/
theorem St.keep {w w' : World} {g h : Nat} {l : List UInt8} {e : Int} (r : St w g h l e) (h1 : w'.heap[g]? = w.heap[g]?) (h2 : w'.heap[h]? = w.heap[h]?) : St w' g h l e := by
  have fg : ∀ o, w'.cell? ⟨g, o, none⟩ = w.cell? ⟨g, o, none⟩ := fun o => World.cell?_of_block h1
  have fh : ∀ o, w'.cell? ⟨h, o, none⟩ = w.cell? ⟨h, o, none⟩ := fun o => World.cell?_of_block h2
  have zg : ∀ o, w'.frozen? ⟨g, o, none⟩ = w.frozen? ⟨g, o, none⟩ := fun o => World.frozen?_of_block h1
  rcases r with ⟨h0, p, c, a0, a1, a2, f1, f2, hl, hg, hb⟩ | ⟨h0, hl, a0, a2⟩
  · refine .inl ⟨h0, p, c, (fg 0).trans a0, (fg 1).trans a1, (fg 2).trans a2, (zg 1).trans f1, (zg 2).trans f2, hl, hg, fun hne => ?_⟩
    obtain ⟨o, hp, hcell⟩ := hb hne
    exact ⟨o, hp, fun i x hx => (fh _).trans (hcell i x hx)⟩
  · exact .inr ⟨h0, hl, (fg 0).trans a0, (fg 2).trans a2⟩
theorem St.lt {w : World} {g h : Nat} {l : List UInt8} {e : Int} (r : St w g h l e) : g < w.heap.size := by
  rcases r with ⟨_, p, c, a0, _⟩ | ⟨_, _, a0, _⟩
  · exact World.block_lt_of_cell? w ⟨g, 0, none⟩ a0
  · exact World.block_lt_of_cell? w ⟨g, 0, none⟩ a0
/-- All blocks but g and B are as they were. -/
def K2 (g B : Nat) (w w' : World) : Prop := w'.os = w.os ∧ w'.tape = w.tape ∧ w'.output = w.output ∧ w.heap.size ≤ w'.heap.size ∧ ∀ k, k < w.heap.size → k ≠ g → k ≠ B → w'.heap[k]? = w.heap[k]?
theorem K2.trans {g B : Nat} {a b c : World} (h : K2 g B a b) (k : K2 g B b c) : K2 g B a c :=
  ⟨k.1.trans h.1, k.2.1.trans h.2.1, k.2.2.1.trans h.2.2.1, Nat.le_trans h.2.2.2.1 k.2.2.2.1, fun i hi h1 h2 => (k.2.2.2.2 i (Nat.lt_of_lt_of_le hi h.2.2.2.1) h1 h2).trans (h.2.2.2.2 i hi h1 h2)⟩
theorem K2.of_kb {g B : Nat} {w w' : World} (h : KB g w w') : K2 g B w w' := ⟨h.1, h.2.1, h.2.2.1, h.2.2.2.1, fun k hk h1 _ => h.2.2.2.2 k hk h1⟩
theorem K2.of_kb2 {g B : Nat} {w w' : World} (h : KB B w w') : K2 g B w w' := ⟨h.1, h.2.1, h.2.2.1, h.2.2.2.1, fun k hk _ h1 => h.2.2.2.2 k hk h1⟩
theorem K2.of_below {g B : Nat} {w w' : World} (h : Below w.heap.size w w') : K2 g B w w' := K2.of_kb (KB.of_below h)
theorem K2.refl (g B : Nat) (w : World) : K2 g B w w := K2.of_below (Below.refl _ _)
/-- A block that is made on the way may be another. -/
theorem K2.turn {g B C : Nat} {w a b : World} (h : K2 g B w a) (k : K2 g C a b) (hC : w.heap.size ≤ C) : K2 g B w b :=
  ⟨k.1.trans h.1, k.2.1.trans h.2.1, k.2.2.1.trans h.2.2.1, Nat.le_trans h.2.2.2.1 k.2.2.2.1, fun i hi h1 h2 => (k.2.2.2.2 i (Nat.lt_of_lt_of_le hi h.2.2.2.1) h1 (by omega)).trans (h.2.2.2.2 i hi h1 h2)⟩
theorem K2.below {g B lo : Nat} {w w' : World} (h : K2 g B w w') (h1 : lo ≤ g) (h2 : lo ≤ B) (h3 : lo ≤ w.heap.size) : Below lo w w' :=
  ⟨h.1, h.2.1, h.2.2.1, h.2.2.2.1, fun k hk => h.2.2.2.2 k (by omega) (by omega) (by omega)⟩
theorem Bk.k2 {g B : Nat} {w w' : World} {q : Nat} {cs : Array Value} {t : TypeId} (h : Bk w q cs t) (k : K2 g B w w') (h1 : q ≠ g) (h2 : q ≠ B) : Bk w' q cs t := (k.2.2.2.2 q h.lt h1 h2).trans h
/-- Decode's variable r, and the reader to which it leads. -/
structure JD (g h gv : Nat) (l : List UInt8) (e : Int) (W : World) : Prop where
  st : St W g h l e
  var : Bk W gv #[.pointer (some ⟨g, 0, none⟩)] 58
  ne : gv ≠ g
  hlt : h < W.heap.size
theorem JD.below {g h gv : Nat} {l : List UInt8} {e : Int} {W W' : World} (j : JD g h gv l e W) (hb : Below W.heap.size W W') : JD g h gv l e W' :=
  ⟨j.st.keep (hb.block g j.st.lt) (hb.block h j.hlt), j.var.below hb, j.ne, Nat.lt_of_lt_of_le j.hlt hb.size⟩
/-- A target that is none of the reader's blocks. -/
structure Apart (g h gv B : Nat) : Prop where
  a1 : B ≠ g
  a2 : B ≠ h
  a3 : B ≠ gv
theorem JD.put {g h gv B : Nat} {l : List UInt8} {e : Int} {W : World} (j : JD g h gv l e W) (a : Apart g h gv B) (i : Nat) (v : Value) : JD g h gv l e (W.setCell ⟨B, i, none⟩ v) := by
  have hb : ∀ k, k ≠ B → (W.setCell ⟨B, i, none⟩ v).heap[k]? = W.heap[k]? := fun k hk => Below.heap_setCell _ _ _ _ hk
  exact ⟨j.st.keep (hb g (fun h => a.a1 h.symm)) (hb h (fun h => a.a2 h.symm)), (hb gv (fun h => a.a3 h.symm)).trans j.var, j.ne, by simpa [World.setCell] using j.hlt⟩
theorem JD.read {g h gv : Nat} {l l' : List UInt8} {e e' : Int} {W W' : World} (j : JD g h gv l e W) (s : St W' g h l' e') (k : KB g W W') : JD g h gv l' e' W' :=
  ⟨s, (k.2.2.2.2 gv j.var.lt j.ne).trans j.var, j.ne, Nat.lt_of_lt_of_le j.hlt k.2.2.2.1⟩
/-- What a closure of Decode leaves: the reader's state, the target's cells. -/
def DP (g h gv B : Nat) (cs : Array Value) (t : TypeId) (l : List UInt8) (e : Int) (W : World) (x : Ending) (W' : World) : Prop :=
  x = .returned (.tuple #[]) ∧ JD g h gv l e W' ∧ Bk W' B cs t ∧ K2 g B W W'
set_option maxHeartbeats 1000000 in
theorem dnum_calls (g h gv B i : Nat) (cs : Array Value) (t : TypeId) (l : List UInt8) (e : Int) (W : World) (most : Int) (j : JD g h gv l e W) (a : Apart g h gv B) (hb : Bk W B cs t) (hi : i < cs.size) :
    Calls Try.prog 29 #[.pointer (some ⟨B, i, none⟩), .int .i64 most, .pointer (some ⟨gv, 0, none⟩)] W (DP g h gv B (cs.setIfInBounds i (.int .i64 (sNum most l e).1)) t (sNum most l e).2.1 (sNum most l e).2.2 W) := by
  have NC :=  num_st W g h l e most j.st
  have c0 : W.cell? ⟨gv, 0, none⟩ = some (Value.pointer (some ⟨g, 0, none⟩)) := j.var.cell 0
  have HJ : Hid (JD g h gv l e W) := j
  have HA : Hid (Apart g h gv B) := a
  have HB : Hid (Bk W B cs t) := hb
  have HI : Hid (i < cs.size) := hi
  generalize sNum most l e = q at NC ⊢
  obtain ⟨X, l1, e1⟩ := q
  dsimp only at NC ⊢
  have HN : Hid (Calls Try.prog 30 #[.pointer (some ⟨g, 0, none⟩), .int .i64 most] W (Rs W g h (.int .i64 X) l1 e1)) := NC
  clear NC j a hb hi
  go_enter Try.func29, Try.ntmps29
  go_wp2_with fail
  refine HN.out.mono ?_
  rintro x w1 ⟨rfl, s1, k1⟩
  have J1 : Hid (JD g h gv l1 e1 w1) := HJ.out.read s1 k1
  have B1 : Hid (Bk w1 B cs t) := (k1.2.2.2.2 B HB.out.lt HA.out.a1).trans HB.out
  have K1 : Hid (K2 g B W w1) := K2.of_kb k1
  have c1 : w1.cell? ⟨B, i, none⟩ = some (cs[i]'HI.out) := (B1.out.cell i).trans (Array.getElem?_eq_getElem HI.out)
  have f1 := B1.out.frozen i
  clear s1 k1 c0
  generalize cs[i]'HI.out = old at c1
  go_wp2_with fail
  first | go_end0 | refine bodyPost_ret (results_none rfl _ _ _) rfl ?_
  exact ⟨rfl, J1.out.put HA.out i _, B1.out.set i _, K1.out.trans (K2.of_kb2 (KB.setCell B w1 i _))⟩
set_option maxHeartbeats 1000000 in
theorem dtext_calls (g h gv B i : Nat) (cs : Array Value) (t : TypeId) (l : List UInt8) (e : Int) (W : World) (least most : Int) (j : JD g h gv l e W) (a : Apart g h gv B) (hb : Bk W B cs t) (hi : i < cs.size) :
    Calls Try.prog 31 #[.pointer (some ⟨B, i, none⟩), .int .i64 least, .int .i64 most, .pointer (some ⟨gv, 0, none⟩)] W (DP g h gv B (cs.setIfInBounds i (.string (str (sText most l e).1))) t (sText most l e).2.1 (sText most l e).2.2 W) := by
  have NC := text_st W g h l e most j.st
  have c0 : W.cell? ⟨gv, 0, none⟩ = some (Value.pointer (some ⟨g, 0, none⟩)) := j.var.cell 0
  have HJ : Hid (JD g h gv l e W) := j
  have HA : Hid (Apart g h gv B) := a
  have HB : Hid (Bk W B cs t) := hb
  have HI : Hid (i < cs.size) := hi
  generalize sText most l e = q at NC ⊢
  obtain ⟨X, l1, e1⟩ := q
  dsimp only at NC ⊢
  have HN : Hid (Calls Try.prog 32 #[.pointer (some ⟨g, 0, none⟩), .int .i64 most] W (Rs W g h (.string (str X)) l1 e1)) := NC
  clear NC j a hb hi
  go_enter Try.func31, Try.ntmps31
  go_wp2_with fail
  refine HN.out.mono ?_
  rintro x w1 ⟨rfl, s1, k1⟩
  have J1 : Hid (JD g h gv l1 e1 w1) := HJ.out.read s1 k1
  have B1 : Hid (Bk w1 B cs t) := (k1.2.2.2.2 B HB.out.lt HA.out.a1).trans HB.out
  have K1 : Hid (K2 g B W w1) := K2.of_kb k1
  have c1 : w1.cell? ⟨B, i, none⟩ = some (cs[i]'HI.out) := (B1.out.cell i).trans (Array.getElem?_eq_getElem HI.out)
  have f1 := B1.out.frozen i
  clear s1 k1 c0
  generalize cs[i]'HI.out = old at c1
  go_wp2_with fail
  first | go_end0 | refine bodyPost_ret (results_none rfl _ _ _) rfl ?_
  exact ⟨rfl, J1.out.put HA.out i _, B1.out.set i _, K1.out.trans (K2.of_kb2 (KB.setCell B w1 i _))⟩
/-- v is a slice of the bytes l, in a block from lo on. -/
def Hn (lo : Nat) (W : World) (v : Value) (l : List UInt8) : Prop := ∃ nb n c, v = .slice (some ⟨nb, 0, none⟩) n c ∧ lo ≤ nb ∧ Lib.HoldsBytes W v l
theorem Hn.k2 {lo g B : Nat} {W W' : World} {v : Value} {l : List UInt8} (h : Hn lo W v l) (k : K2 g B W W') (h1 : g < lo) (h2 : B < lo) : Hn lo W' v l := by
  obtain ⟨nb, n, c, rfl, hl, p, c', he, q1, q2⟩ := h
  cases he
  refine ⟨nb, _, _, rfl, hl, _, _, rfl, q1, fun a ha i x hx => ?_⟩
  cases ha
  have h0 := q2 _ rfl i x hx
  rw [add_plain] at h0 ⊢
  have hlt := World.block_lt_of_cell? W _ h0
  rw [World.cell?_of_block (w := W) (k.2.2.2.2 nb hlt (by omega) (by omega))]
  exact h0
theorem Hn.lower {lo lo' : Nat} {W : World} {v : Value} {l : List UInt8} (h : Hn lo W v l) (hl : lo' ≤ lo) : Hn lo' W v l := by
  obtain ⟨nb, n, c, rfl, h1, h2⟩ := h
  exact ⟨nb, n, c, rfl, by omega, h2⟩
set_option maxHeartbeats 1000000 in
theorem dbytes_calls (g h gv B i : Nat) (cs : Array Value) (t : TypeId) (l : List UInt8) (e : Int) (W : World) (least most : Int) (j : JD g h gv l e W) (a : Apart g h gv B) (hb : Bk W B cs t) (hi : i < cs.size) :
    Calls Try.prog 33 #[.pointer (some ⟨B, i, none⟩), .int .i64 least, .int .i64 most, .pointer (some ⟨gv, 0, none⟩)] W (fun x W' => ∃ v, Hn W.heap.size W' v (sText most l e).1 ∧ DP g h gv B (cs.setIfInBounds i v) t (sText most l e).2.1 (sText most l e).2.2 W x W') := by
  have NC := text_st W g h l e most j.st
  have c0 : W.cell? ⟨gv, 0, none⟩ = some (Value.pointer (some ⟨g, 0, none⟩)) := j.var.cell 0
  have HJ : Hid (JD g h gv l e W) := j
  have HA : Hid (Apart g h gv B) := a
  have HB : Hid (Bk W B cs t) := hb
  have HI : Hid (i < cs.size) := hi
  generalize sText most l e = q at NC ⊢
  obtain ⟨X, l1, e1⟩ := q
  dsimp only at NC ⊢
  have HN : Hid (Calls Try.prog 32 #[.pointer (some ⟨g, 0, none⟩), .int .i64 most] W (Rs W g h (.string (str X)) l1 e1)) := NC
  clear NC j a hb hi
  go_enter Try.func33, Try.ntmps33
  go_wp2_with fail
  refine HN.out.mono ?_
  rintro x w1 ⟨rfl, s1, k1⟩
  obtain ⟨cap, w2, hcv, hh, hb2⟩ := conv_bytes (str X) w1
  have J1 : Hid (JD g h gv l1 e1 w2) := (HJ.out.read s1 k1).below hb2
  have B1 : Hid (Bk w2 B cs t) := Bk.below (w := w1) ((k1.2.2.2.2 B HB.out.lt HA.out.a1).trans HB.out) hb2
  have K1 : Hid (K2 g B W w2) := (K2.of_kb k1).trans (K2.of_below hb2)
  have HV : Hid (Lib.HoldsBytes w2 (.slice (some ⟨w1.heap.size, 0, none⟩) (str X).size cap) X) := by
    have e : (str X).data.toList = X := by simp [str]
    rw [e] at hh
    exact hh
  have HZ : Hid (W.heap.size ≤ w1.heap.size ∧ B < w1.heap.size) := ⟨k1.2.2.2.1, by have := HB.out.lt; have := k1.2.2.2.1; omega⟩
  have c1 : w2.cell? ⟨B, i, none⟩ = some (cs[i]'HI.out) := (B1.out.cell i).trans (Array.getElem?_eq_getElem HI.out)
  have f1 := B1.out.frozen i
  clear s1 k1 c0 hb2 hh
  generalize cs[i]'HI.out = old at c1
  generalize (str X).size = z at hcv HV
  go_wp2_with fail
  first | go_end0 | refine bodyPost_ret (results_none rfl _ _ _) rfl ?_
  have kset : KB B w2 (w2.setCell ⟨B, i, none⟩ (.slice (some ⟨w1.heap.size, 0, none⟩) z cap)) := KB.setCell B w2 i _
  refine ⟨.slice (some ⟨w1.heap.size, 0, none⟩) z cap, ⟨w1.heap.size, z, cap, rfl, HZ.out.1, ?_⟩, rfl, J1.out.put HA.out i _, B1.out.set i _, K1.out.trans (K2.of_kb2 kset)⟩
  obtain ⟨p, c', he, q1, q2⟩ := HV.out
  cases he
  refine ⟨_, _, rfl, q1, fun a ha i x hx => ?_⟩
  cases ha
  have h0 := q2 _ rfl i x hx
  rw [add_plain] at h0 ⊢
  exact kset.cell h0 (show w1.heap.size ≠ B by have := HZ.out.2; omega)
end Go.Proofs.Ytomkoajhjijplaa
