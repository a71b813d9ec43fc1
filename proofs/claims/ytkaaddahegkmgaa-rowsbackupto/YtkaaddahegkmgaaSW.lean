/- The bytes of rows; the contracts of Encode's functions. -/
import Derived.Test.YtkaaddahegkmgaaRB
import Derived.Test.YtkaaddahegkmgaaXA
import Derived.Test.YtkaaddahegkmgaaPP
import Derived.Test.YtkaaddahegkmgaaRD
import Derived.Test.YtkaaddahegkmgaaRF
import Derived.Deep.DeepCutAuto
import Derived.Test.YtkaaddahegkmgaaRH
namespace Go.Proofs.Ytkaaddahegkmgaa
/-- The bytes of a text, an event, a row, a branch, a list. -/
def encT (s : List UInt8) : List UInt8 := enc s.length ++ s
def encRw (x : Rw) : List UInt8 := encT x.key.data.toList ++ (enc x.ver.toNat ++ encT x.row)
def encL {α : Type} (f : α → List UInt8) (xs : List α) : List UInt8 := enc xs.length ++ xs.flatMap f
def encBn (x : Bn) : List UInt8 := encT x.key.data.toList ++ encL encT x.ev
def encD (r : Db) : List UInt8 := encL encRw r.rows ++ encL encBn r.brs
/-- What is read one behind the other. -/
def rdL {α : Type} (f : List UInt8 → Int → α × List UInt8 × Int) : Nat → List UInt8 → Int → List α × List UInt8 × Int
  | 0, l, e => ([], l, e)
  | n + 1, l, e => ((f l e).1 :: (rdL f n (f l e).2.1 (f l e).2.2).1, (rdL f n (f l e).2.1 (f l e).2.2).2)
/-- What is read of a list with a number ahead. -/
def rdN {α : Type} (m : Int) (f : List UInt8 → Int → α × List UInt8 × Int) (l : List UInt8) (e : Int) : List α × List UInt8 × Int := rdL f (sNum m l e).1.toNat (sNum m l e).2.1 (sNum m l e).2.2
/-- A row, a branch, rows that are read. -/
def rdRw (l : List UInt8) (e : Int) : Rw × List UInt8 × Int :=
  let a := sText 64 l e
  let b := sNum 2147483648 a.2.1 a.2.2
  let c := sText 524288 b.2.1 b.2.2
  (⟨str a.1, b.1, c.1⟩, c.2)
def rdBn (l : List UInt8) (e : Int) : Bn × List UInt8 × Int :=
  let a := sText 64 l e
  let b := rdN 120 (sText 4096) a.2.1 a.2.2
  (⟨str a.1, b.1⟩, b.2)
def rdD (l : List UInt8) : Db × List UInt8 × Int :=
  let a := rdN 10000 rdRw l 0
  let b := rdN 10000 rdBn a.2.1 a.2.2
  (⟨a.1, b.1⟩, b.2)
/-- What is read where there was an error: the error stays. -/
def Stuck {α : Type} (f : List UInt8 → Int → α × List UInt8 × Int) : Prop := ∀ l e, (f l e).2.2 = 0 → e = 0
/-- What f reads has these bytes, and may be; and is read again. -/
structure Codes {α : Type} (f : List UInt8 → Int → α × List UInt8 × Int) (g : α → List UInt8) (P : α → Prop) : Prop where
  stuck : Stuck f
  inv : ∀ l x t, f l 0 = (x, t, 0) → l = g x ++ t ∧ P x
  fwd : ∀ x t, P x → f (g x ++ t) 0 = (x, t, 0)
theorem num_stuck (m : Int) : Stuck (sNum m) := fun l e h => by
  by_cases he : e = 0
  · exact he
  · rw [sNum_err he] at h
    exact h
theorem text_stuck (m : Int) : Stuck (sText m) := fun l e h => by
  by_cases he : (sNum m l e).2.2 = 0
  · exact num_stuck m l e he
  · unfold sText at h
    rw [if_neg he] at h
    exact absurd h he
theorem text_codes (m : Int) (hm : m < 9223372036854775808) : Codes (sText m) encT (fun s => (s.length : Int) ≤ m) := by
  refine ⟨text_stuck m, fun l x t h => ?_, fun x t h => ?_⟩
  · obtain ⟨h1, h2⟩ := sText_inv h
    exact ⟨by rw [h1, encT, List.append_assoc], h2⟩
  · rw [encT, List.append_assoc]
    exact sText_enc x t m h (by omega)
theorem rdL_stuck {α : Type} {f : List UInt8 → Int → α × List UInt8 × Int} (hf : Stuck f) : ∀ n, Stuck (rdL f n)
  | 0 => fun _ _ h => h
  | n + 1 => fun l e h => hf l e (rdL_stuck hf n _ _ h)
theorem rdL_inv {α : Type} {f : List UInt8 → Int → α × List UInt8 × Int} {g : α → List UInt8} {P : α → Prop} (hf : Codes f g P) : ∀ n l xs t, rdL f n l 0 = (xs, t, 0) → xs.length = n ∧ l = xs.flatMap g ++ t ∧ ∀ x ∈ xs, P x
  | 0, l, xs, t, h => by
    cases h
    exact ⟨rfl, rfl, fun x hx => (by cases hx)⟩
  | n + 1, l, xs, t, h => by
    unfold rdL at h
    have h2 : (rdL f n (f l 0).2.1 (f l 0).2.2).2 = (t, 0) := congrArg Prod.snd h
    have he : (f l 0).2.2 = 0 := rdL_stuck hf.stuck n _ _ (congrArg Prod.snd h2)
    rw [he] at h
    obtain ⟨q, hq⟩ : ∃ q, f l 0 = q := ⟨_, rfl⟩
    obtain ⟨x, l1, e1⟩ := q
    rw [hq] at h he
    dsimp only at h he
    subst he
    obtain ⟨q, hr⟩ : ∃ q, rdL f n l1 0 = q := ⟨_, rfl⟩
    obtain ⟨ys, l2, e2⟩ := q
    rw [hr] at h
    cases h
    obtain ⟨k1, k2, k3⟩ := rdL_inv hf n l1 ys t hr
    obtain ⟨j1, j2⟩ := hf.inv l x l1 hq
    refine ⟨by rw [List.length_cons, k1], by rw [List.flatMap_cons, List.append_assoc, ← k2]; exact j1, fun y hy => ?_⟩
    rcases List.mem_cons.1 hy with rfl | hy
    · exact j2
    · exact k3 y hy
theorem rdL_fwd {α : Type} {f : List UInt8 → Int → α × List UInt8 × Int} {g : α → List UInt8} {P : α → Prop} (hf : Codes f g P) (t : List UInt8) : ∀ xs, (∀ x ∈ xs, P x) → rdL f xs.length (xs.flatMap g ++ t) 0 = (xs, t, 0)
  | [], _ => rfl
  | x :: xs, h => by
    have h1 := hf.fwd x (xs.flatMap g ++ t) (h x (List.mem_cons_self ..))
    have h2 := rdL_fwd hf t xs fun y hy => h y (List.mem_cons_of_mem _ hy)
    rw [List.length_cons, List.flatMap_cons, List.append_assoc]
    unfold rdL
    rw [h1]
    dsimp only
    rw [h2]
theorem rdN_codes {α : Type} {f : List UInt8 → Int → α × List UInt8 × Int} {g : α → List UInt8} {P : α → Prop} (hf : Codes f g P) (m : Int) (hm : m < 9223372036854775808) : Codes (rdN m f) (encL g) (fun xs => (xs.length : Int) ≤ m ∧ ∀ x ∈ xs, P x) := by
  refine ⟨fun l e h => num_stuck m l e (rdL_stuck hf.stuck _ _ _ h), fun l xs t h => ?_, fun xs t h => ?_⟩
  · unfold rdN at h
    have he : (sNum m l 0).2.2 = 0 := rdL_stuck hf.stuck _ _ _ (by rw [h])
    obtain ⟨q, hq⟩ : ∃ q, sNum m l 0 = q := ⟨_, rfl⟩
    obtain ⟨k, l1, e1⟩ := q
    rw [hq] at h he
    dsimp only at h he
    subst he
    obtain ⟨h1, h2, h3, h4⟩ := sNum_inv hq
    obtain ⟨j1, j2, j3⟩ := rdL_inv hf _ _ _ _ h
    refine ⟨?_, by omega, j3⟩
    rw [encL, j1, List.append_assoc, ← j2]
    exact h3
  · unfold rdN encL
    rw [List.append_assoc, sNum_enc xs.length m _ (by omega) h.1]
    dsimp only
    rw [Int.toNat_natCast]
    exact rdL_fwd hf t xs h.2
theorem str_data (k : ByteArray) : str k.data.toList = k := by cases k; simp [str]
theorem data_str (l : List UInt8) : (str l).data.toList = l := by simp [str]
/-- What a row, a branch, rows may have. -/
structure LimR (x : Rw) : Prop where
  key : x.key.data.toList.length ≤ 64
  lo : 0 ≤ x.ver
  hi : x.ver ≤ 2147483648
  row : x.row.length ≤ 524288
structure LimB (x : Bn) : Prop where
  key : x.key.data.toList.length ≤ 64
  len : x.ev.length ≤ 120
  ev : ∀ e ∈ x.ev, e.length ≤ 4096
structure LimD (r : Db) : Prop where
  r0 : r.rows.length ≤ 10000
  r1 : ∀ x ∈ r.rows, LimR x
  b0 : r.brs.length ≤ 10000
  b1 : ∀ x ∈ r.brs, LimB x
theorem rw_codes : Codes rdRw encRw LimR := by
  refine ⟨fun l e h => ?_, fun l x t h => ?_, fun x t h => ?_⟩
  · exact text_stuck 64 l e (num_stuck _ _ _ (text_stuck 524288 _ _ h))
  · unfold rdRw at h
    dsimp only at h
    have hc : (sText 524288 (sNum 2147483648 (sText 64 l 0).2.1 (sText 64 l 0).2.2).2.1 (sNum 2147483648 (sText 64 l 0).2.1 (sText 64 l 0).2.2).2.2).2 = (t, 0) := congrArg Prod.snd h
    have hb : (sNum 2147483648 (sText 64 l 0).2.1 (sText 64 l 0).2.2).2.2 = 0 := text_stuck 524288 _ _ (congrArg Prod.snd hc)
    have ha : (sText 64 l 0).2.2 = 0 := num_stuck _ _ _ hb
    obtain ⟨q, h1⟩ : ∃ q, sText 64 l 0 = q := ⟨_, rfl⟩
    obtain ⟨k, l1, e1⟩ := q
    rw [h1] at h hc hb ha
    dsimp only at h hc hb ha
    subst ha
    obtain ⟨q, h2⟩ : ∃ q, sNum 2147483648 l1 0 = q := ⟨_, rfl⟩
    obtain ⟨v, l2, e2⟩ := q
    rw [h2] at h hc hb
    dsimp only at h hc hb
    subst hb
    obtain ⟨q, h3⟩ : ∃ q, sText 524288 l2 0 = q := ⟨_, rfl⟩
    obtain ⟨s, l3, e3⟩ := q
    rw [h3] at h
    dsimp only at h
    cases h
    obtain ⟨j1, j2⟩ := (text_codes 64 (by decide)).inv _ _ _ h1
    obtain ⟨k1, k2, k3, k4⟩ := sNum_inv h2
    obtain ⟨m1, m2⟩ := (text_codes 524288 (by decide)).inv _ _ _ h3
    refine ⟨?_, ⟨by rw [data_str]; omega, k1, k2, by show s.length ≤ 524288; omega⟩⟩
    simp only [encRw, data_str, List.append_assoc]
    rw [← m1, ← k3]
    exact j1
  · have h1 := (text_codes 64 (by decide)).fwd x.key.data.toList (enc x.ver.toNat ++ encT x.row ++ t) (by have := h.key; omega)
    have h2 := sNum_enc x.ver.toNat 2147483648 (encT x.row ++ t) (by have := h.hi; omega) (by have := h.hi; have := h.lo; omega)
    have h3 := (text_codes 524288 (by decide)).fwd x.row t (by have := h.row; omega)
    have hv : (x.ver.toNat : Int) = x.ver := Int.toNat_of_nonneg h.lo
    unfold rdRw encRw
    rw [List.append_assoc, h1]
    dsimp only
    rw [List.append_assoc, h2]
    dsimp only
    rw [h3]
    dsimp only
    rw [str_data, hv]
theorem bn_codes : Codes rdBn encBn LimB := by
  have hN := rdN_codes (text_codes 4096 (by decide)) 120 (by decide)
  refine ⟨fun l e h => ?_, fun l x t h => ?_, fun x t h => ?_⟩
  · exact text_stuck 64 l e (hN.stuck _ _ h)
  · unfold rdBn at h
    dsimp only at h
    have hb : (rdN 120 (sText 4096) (sText 64 l 0).2.1 (sText 64 l 0).2.2).2 = (t, 0) := congrArg Prod.snd h
    have ha : (sText 64 l 0).2.2 = 0 := hN.stuck _ _ (congrArg Prod.snd hb)
    obtain ⟨q, h1⟩ : ∃ q, sText 64 l 0 = q := ⟨_, rfl⟩
    obtain ⟨k, l1, e1⟩ := q
    rw [h1] at h hb ha
    dsimp only at h hb ha
    subst ha
    obtain ⟨q, h3⟩ : ∃ q, rdN 120 (sText 4096) l1 0 = q := ⟨_, rfl⟩
    obtain ⟨s, l3, e3⟩ := q
    rw [h3] at h
    dsimp only at h
    cases h
    obtain ⟨j1, j2⟩ := (text_codes 64 (by decide)).inv _ _ _ h1
    obtain ⟨m1, m2, m3⟩ := hN.inv _ _ _ h3
    refine ⟨?_, ⟨by rw [data_str]; omega, by show s.length ≤ 120; omega, fun e he => by have := m3 e he; omega⟩⟩
    simp only [encBn, data_str, List.append_assoc]
    rw [← m1]
    exact j1
  · have h1 := (text_codes 64 (by decide)).fwd x.key.data.toList (encL encT x.ev ++ t) (by have := h.key; omega)
    have h3 := hN.fwd x.ev t ⟨by have := h.len; omega, fun e he => by have := h.ev e he; omega⟩
    unfold rdBn encBn
    rw [List.append_assoc, h1]
    dsimp only
    rw [h3]
    dsimp only
    rw [str_data]
theorem rdD_inv {l : List UInt8} {r : Db} (h : rdD l = (r, [], 0)) : l = encD r ∧ LimD r := by
  have hR := rdN_codes rw_codes 10000 (by decide)
  have hB := rdN_codes bn_codes 10000 (by decide)
  unfold rdD at h
  dsimp only at h
  have hb : (rdN 10000 rdBn (rdN 10000 rdRw l 0).2.1 (rdN 10000 rdRw l 0).2.2).2 = ([], 0) := congrArg Prod.snd h
  have ha : (rdN 10000 rdRw l 0).2.2 = 0 := hB.stuck _ _ (congrArg Prod.snd hb)
  obtain ⟨q, h1⟩ : ∃ q, rdN 10000 rdRw l 0 = q := ⟨_, rfl⟩
  obtain ⟨k, l1, e1⟩ := q
  rw [h1] at h hb ha
  dsimp only at h hb ha
  subst ha
  obtain ⟨q, h3⟩ : ∃ q, rdN 10000 rdBn l1 0 = q := ⟨_, rfl⟩
  obtain ⟨s, l3, e3⟩ := q
  rw [h3] at h
  dsimp only at h
  cases h
  obtain ⟨j1, j2, j3⟩ := hR.inv _ _ _ h1
  obtain ⟨m1, m2, m3⟩ := hB.inv _ _ _ h3
  refine ⟨?_, ⟨by show k.length ≤ 10000; omega, j3, by show s.length ≤ 10000; omega, m3⟩⟩
  rw [List.append_nil] at m1
  show l = encL encRw k ++ encL encBn s
  rw [← m1]
  exact j1
theorem rdD_fwd {r : Db} (h : LimD r) : rdD (encD r) = (r, [], 0) := by
  have hR := rdN_codes rw_codes 10000 (by decide)
  have hB := rdN_codes bn_codes 10000 (by decide)
  have h1 := hR.fwd r.rows (encL encBn r.brs) ⟨by have := h.r0; omega, h.r1⟩
  have h2 := hB.fwd r.brs [] ⟨by have := h.b0; omega, h.b1⟩
  rw [List.append_nil] at h2
  unfold rdD encD
  rw [h1]
  dsimp only
  rw [h2]
end Go.Proofs.Ytkaaddahegkmgaa
namespace Go.Proofs.Ytkaaddahegkmgaa
open Go.ChangeShapes Go.WideShapes Go.ChangeAt Go.RowKit
theorem info5b : (Try.prog.info? 5).map (fun i => (i.zero, i.size, i.bytes)) = some (some (.int .u8 0), 1, 1) := by kernel_rfl
theorem Own.keep {lo : Nat} {w w' : World} {u : Value} {l : List UInt8} (h : Own lo w u l) (hk : ∀ B, u.ownBlock = some B → w'.heap[B]? = w.heap[B]?) : Own lo w' u l := row_kept h hk
theorem Own.blw {lo : Nat} {w w' : World} {u : Value} {l : List UInt8} (h : Own lo w u l) (hb : Below w.heap.size w w') : Own lo w' u l := h.keep fun B hB => hb.block B (World.ownsRow.lt h B hB).2
theorem Own.shp {lo : Nat} {w : World} {u : Value} {l : List UInt8} (h : Own lo w u l) : ∃ a c, u = .slice a l.length c := by
  obtain ⟨_, ⟨rfl, h2⟩ | ⟨g, cap, cur, rfl, _⟩⟩ := h
  · exact ⟨none, 0, by rw [h2]⟩
  · exact ⟨_, _, rfl⟩
/-- append of bytes to bytes of the call's own. -/
theorem own_app {lo g c : Nat} {W : World} {u : Value} {acc l : List UInt8} (h : Own lo W u acc) (hx : Lib.HoldsBytes W (.slice (some ⟨g, 0, none⟩) l.length c) l) (hn : acc.length + l.length ≤ 70368744177664) (hB : lo ≤ W.heap.size) :
    ∃ u' w', (∀ ty, (Builtin.append_ #[26, 26] ty #[u, .slice (some ⟨g, 0, none⟩) l.length c]).run Try.prog W = .ok u' w') ∧ Own lo w' u' (acc ++ l) ∧ Below lo W w' := by
  obtain ⟨i0, hi, hz0, hz1, hz2⟩ := info_parts info5b
  obtain ⟨p, cap, e, _, hc⟩ := hx
  cases e
  have hnews : ∀ j z, (bval l)[j]? = some z → W.cell? ((⟨g, 0, none⟩ : Addr).add j) = some z := fun j z hj => by
    rw [bval, List.getElem?_map] at hj
    obtain ⟨y, hy, rfl⟩ := Option.map_eq_some_iff.1 hj
    exact hc _ rfl j y hy
  have key : ∀ ty, ∃ v' w', (Builtin.append_ #[26, 26] ty #[u, .slice (some ⟨g, 0, none⟩) l.length c]).run Try.prog W = .ok v' w' ∧ w'.ownsRow lo 5 1 v' (acc.length + l.length) (bval acc ++ bval l) ∧ W.grownBy w' u.ownBlock ∧ _ := fun ty =>
    run_append_own (P := Try.prog) (w := W) lo 26 ty 5 i0 _ 1 1 Try.underlying26 hi hz0 hz1 hz2 rfl (by decide) u acc.length (bval acc) h ⟨g, 0, none⟩ l.length c (bval l) (by rw [bval_length, Nat.mul_one]) hnews (fun z hz => by obtain ⟨y, _, rfl⟩ := List.mem_map.1 hz; rfl) (by unfold maxLen; omega) (by omega) hB
  obtain ⟨u', w', hr, hown', hgrow, _⟩ := key 26
  refine ⟨u', w', fun ty => hr, ?_, (Below.refl _ W).grown hgrow hB (fun k hk2 => (World.ownsRow.lt h k hk2).1)⟩
  unfold Own
  have e : bval (acc ++ l) = bval acc ++ bval l := by simp [bval]
  rw [List.length_append, e]
  exact hown'
/-- Bytes of the call's own, or bytes without room behind them. -/
def Ub (lo : Nat) (w : World) (u : Value) (l : List UInt8) : Prop := Own lo w u l ∨ ∃ g, lo ≤ g ∧ u = .slice (some ⟨g, 0, none⟩) l.length l.length ∧ Lib.HoldsBytes w u l
theorem Ub.blw {lo : Nat} {w w' : World} {u : Value} {l : List UInt8} (h : Ub lo w u l) (hb : Below w.heap.size w w') : Ub lo w' u l := by
  rcases h with h | ⟨g, h1, h2, h3⟩
  · exact .inl (h.blw hb)
  · exact .inr ⟨g, h1, h2, holds_below h3 hb⟩
theorem Ub.shp {lo : Nat} {w : World} {u : Value} {l : List UInt8} (h : Ub lo w u l) : ∃ a c, u = .slice a l.length c := by
  rcases h with h | ⟨g, h1, h2, h3⟩
  · exact h.shp
  · exact ⟨_, _, h2⟩
theorem Ub.holds {lo : Nat} {w : World} {u : Value} {l : List UInt8} (h : Ub lo w u l) : Lib.HoldsBytes w u l := by
  rcases h with h | ⟨g, h1, h2, h3⟩
  · exact own_holds h
  · exact h3
theorem Ub.of_nb {lo : Nat} {w w' : World} {l : List UInt8} {v : Value} (h : NB w l (.returned v) w') (hl : lo ≤ w.heap.size) : Ub lo w' v l := by
  obtain ⟨g, h1, h2, h3, _⟩ := h
  cases h2
  exact .inr ⟨g, Nat.le_trans hl h1, rfl, h3⟩
/-- append of bytes to such bytes. -/
theorem ub_app {lo g c : Nat} {W : World} {u : Value} {acc l : List UInt8} (h : Ub lo W u acc) (hx : Lib.HoldsBytes W (.slice (some ⟨g, 0, none⟩) l.length c) l) (h0 : 0 < l.length) (hn : acc.length + l.length ≤ 70368744177664) (hB : lo ≤ W.heap.size) :
    ∃ u' w', (∀ ty, (Builtin.append_ #[26, 26] ty #[u, .slice (some ⟨g, 0, none⟩) l.length c]).run Try.prog W = .ok u' w') ∧ Ub lo w' u' (acc ++ l) ∧ Below lo W w' := by
  rcases h with h | ⟨q, h1, rfl, h3⟩
  · obtain ⟨u', w', k1, k2, k3⟩ := own_app h hx hn hB
    exact ⟨u', w', k1, .inl k2, k3⟩
  · obtain ⟨i0, hi, hz0, hz1, hz2⟩ := info_parts info5b
    obtain ⟨p1, c1, e1, _, k1⟩ := h3
    cases e1
    obtain ⟨p2, c2, e2, _, k2⟩ := hx
    cases e2
    have cellsOf : ∀ (b : Addr) (l : List UInt8), (∀ (i : Nat) x, l[i]? = some x → W.cell? (b.add i) = some (.int .u8 (x.toNat : Int))) → ∀ j u, (bval l)[j]? = some u → W.cell? (b.add j) = some u := by
      intro b l hc j u hu
      unfold bval at hu
      rw [List.getElem?_map] at hu
      obtain ⟨x, hx, rfl⟩ := Option.map_eq_some_iff.1 hu
      exact hc j x hx
    have hr := fun ty => run_append_grow (P := Try.prog) W 26 ty 5 i0 (.int .u8 0) Try.underlying26 hi hz0 ⟨q, 0, none⟩ acc.length acc.length (bval acc) (by rw [hz1, bval_length, Nat.mul_one]) (cellsOf _ acc (k1 _ rfl))
      ⟨g, 0, none⟩ l.length c (bval l) (by rw [hz1, bval_length, Nat.mul_one]) (cellsOf _ l (k2 _ rfl)) (by omega) (by omega) (growslice_fits (by omega) (by rw [hz2]; omega))
    refine ⟨_, _, hr, .inl ?_, ((Below.refl _ W).drew).alloc hB _⟩
    have hge := grownCap_ge W (acc.length + l.length) acc.length 5
    have hle := grownCap_le_maxLen W (acc.length + l.length) acc.length 5 (by unfold maxLen; omega)
    refine ⟨by rw [bval_length, Nat.mul_one], .inr ⟨W.heap.size, _, _, by rw [List.length_append], hB, heap_alloc_last W.drew _, by rw [List.length_append]; exact hge, hle, ?_, ?_⟩⟩
    · have hz : (Value.int .u8 0).cells.size = 1 := rfl
      simp only [Array.size_append, List.size_toArray, size_zeroCells, hz, bval_length, Nat.mul_one]
      omega
    · have e : bval (acc ++ l) = bval acc ++ bval l := by simp [bval]
      have hlen : (bval acc ++ bval l).length = acc.length + l.length := by simp [bval]
      rw [Nat.mul_one, List.length_append, e, Array.toList_append, Array.toList_append, ← hlen]
      exact List.take_left' rfl
end Go.Proofs.Ytkaaddahegkmgaa
namespace Go.Proofs.Ytkaaddahegkmgaa
open Go.ChangeShapes Go.WideShapes Go.ChangeAt Go.RowKit
theorem drewBd {w w' : World} (h : Below w.drew.heap.size w.drew w') : Below w.heap.size w w' := ((Below.refl _ w).drew).trans h
theorem size_data (s : ByteArray) : s.size = s.data.toList.length := by rw [Array.length_toList]; rfl
theorem encT_length (s : List UInt8) (h : s.length < 9223372036854775808) : (encT s).length ≤ s.length + 9 := by
  have := enc_length s.length h
  unfold encT
  rw [List.length_append]
  omega
theorem textO (v : Value) (l : List UInt8) (s : ByteArray) (w : World) (hv : Lib.HoldsBytes w v l) (hl : l.length ≤ 70368744177664) (hs : s.data.toList.length ≤ 70368744177664) :
    Calls Try.prog 100 #[v, .string s] w (NB w (l ++ encT s.data.toList)) := by
  have h := text_calls v l s w hv (by rw [size_data]; omega) (by rw [size_data]; omega)
  rw [size_data, List.append_assoc] at h
  exact h
theorem textN (s : ByteArray) (w : World) (hs : s.data.toList.length ≤ 70368744177664) : Calls Try.prog 100 #[.slice none 0 0, .string s] w (NB w (encT s.data.toList)) := by
  have h := textO (.slice none 0 0) [] s w (holds_nil _) (by simp) hs
  rwa [List.nil_append] at h
set_option maxHeartbeats 4000000 in
set_option maxRecDepth 100000 in
theorem encRow_calls (w : World) (B o : Nat) (x : Rw) (v : Value) (hk0 : w.cell? ⟨B, o, none⟩ = some (.string x.key)) (hk1 : w.cell? ⟨B, o + 1, none⟩ = some (.int .i64 x.ver)) (hk2 : w.cell? ⟨B, o + 2, none⟩ = some v) (hv : HB (fun _ => True) w v x.row) (hx : LimR x) :
    Calls Try.prog 73 #[.pointer (some ⟨B, o, none⟩)] w (NB w (encRw x)) := by
  obtain ⟨p, c, rfl, _⟩ := hv.shape
  have hh := hv.bytes
  obtain ⟨L1, hL1⟩ : ∃ L, L = encT x.key.data.toList := ⟨_, rfl⟩
  obtain ⟨L2, hL2⟩ : ∃ L, L = L1 ++ enc x.ver.toNat := ⟨_, rfl⟩
  obtain ⟨L3, hL3⟩ : ∃ L, L = L2 ++ encT x.row := ⟨_, rfl⟩
  have hb1 := enc_length x.ver.toNat (by have := hx.hi; omega)
  have hb0 := encT_length x.key.data.toList (by have := hx.key; omega)
  have hk64 := hx.key
  have hr := hx.row
  have hvv := hx.hi
  have e3 : encRw x = L3 := by rw [hL3, hL2, hL1, encRw, List.append_assoc]
  rw [e3]
  have l1 : L1.length ≤ 73 := by rw [hL1]; omega
  have l2 : L2.length ≤ 82 := by rw [hL2, List.length_append]; omega
  obtain ⟨key, ver, row⟩ := x
  dsimp only at hk0 hk1 hk2 hh hk64 hr hvv hL1 hL2 hL3 ⊢
  have T1 : Hid (∀ W, Calls Try.prog 100 #[.slice none 0 0, .string key] W (NB W L1)) := fun W => by rw [hL1]; exact textN key W (by omega)
  have T2 : Hid (∀ W v, Lib.HoldsBytes W v L1 → Calls Try.prog 72 #[v, .int .i64 ver] W (NB W L2)) := fun W v h => by rw [hL2]; exact num_calls v L1 ver (by omega) W h (by omega)
  have T3 : Hid (∀ W v, Lib.HoldsBytes W v L2 → Calls Try.prog 100 #[v, .string (str row)] W (NB W L3)) := fun W v h => by
    have h3 := textO v L2 (str row) W h (by omega) (by rw [data_str]; omega)
    rw [data_str] at h3
    rw [hL3]
    exact h3
  have k0 := hk0
  have k1 := hk1
  have k2 := hk2
  clear hk0 hk1 hk2 hv hx hL1 hL2 hL3 e3 l1 l2 hb0 hb1 hk64 hr hvv
  go_enter Try.func73, Try.ntmps73
  go_upto_region 4 with (simp only [ta96])
  refine wp_region_held_drew (S := (fun W => W.cell? ⟨B, o, none⟩ = some (.string key) ∧ W.cell? ⟨B, o + 1, none⟩ = some (.int .i64 ver) ∧ W.cell? ⟨B, o + 2, none⟩ = some (.slice p row.length c) ∧ Lib.HoldsBytes W (.slice p row.length c) row)) (by kernel_rfl) ⟨k0, k1, k2, hh⟩ (fun hHeld => ?_)
  change wpAnyH _ _ _ _ _ _ _ _ (World.drew _)
  refine wpAnyH_take (i := 0) (oi := { dst := some 13, op := Go.Op.move (Go.Operand.tmp 3), type := 96, pos := "rows.go:178", after := #[], guard := none }) (v := ?_) rfl (by kernel_rfl) (by kernel_rfl) (by kernel_rfl) (fun _ _ _ h => h) (Or.inl ⟨by rfl, ?_⟩) hHeld ?_
  rotate_left 1
  · (intro w hSw; (try dsimp only at hSw); go_simp <;> with_reducible rfl)
  simp only [Act.put, List.setIfInBounds_toArray, List.set_cons_zero, List.set_cons_succ]
  refine wpAnyH_take (i := 1) (oi := { dst := some 14, op := Go.Op.nilCheck (Go.Operand.tmp 13), type := 0, pos := "rows.go:178", after := #[{ on := 0, ground := Go.Ground.data }], guard := none }) (v := ?_) rfl (by kernel_rfl) (by kernel_rfl) (by kernel_rfl) (fun _ _ _ h => h) (Or.inl ⟨by rfl, ?_⟩) hHeld ?_
  rotate_left 1
  · (intro w hSw; (try dsimp only at hSw); go_simp <;> with_reducible rfl)
  simp only [Act.put, List.setIfInBounds_toArray, List.set_cons_zero, List.set_cons_succ]
  refine wpAnyH_take (i := 2) (oi := { dst := some 15, op := Go.Op.fieldAddr 37 (Go.Operand.tmp 14) 0, type := 0, pos := "rows.go:178", after := #[{ on := 1, ground := Go.Ground.data }], guard := none }) (v := ?_) rfl (by kernel_rfl) (by kernel_rfl) (by kernel_rfl) (fun _ _ _ h => h) (Or.inl ⟨by rfl, ?_⟩) hHeld ?_
  rotate_left 1
  · (intro w hSw; (try dsimp only at hSw); go_simp <;> with_reducible rfl)
  simp only [Act.put, List.setIfInBounds_toArray, List.set_cons_zero, List.set_cons_succ]
  refine wpAnyH_take (i := 3) (oi := { dst := some 16, op := Go.Op.load 9 (Go.Operand.tmp 15), type := 9, pos := "rows.go:178", after := #[{ on := 2, ground := Go.Ground.data }], guard := none }) (v := ?_) rfl (by kernel_rfl) (by kernel_rfl) (by kernel_rfl) (fun _ _ _ h => h) (Or.inl ⟨by rfl, ?_⟩) hHeld ?_
  rotate_left 1
  · (intro w hSw; (try dsimp only at hSw); go_simp <;> with_reducible rfl)
  simp only [Act.put, List.setIfInBounds_toArray, List.set_cons_zero, List.set_cons_succ]
  refine wpAnyH_take (i := 5) (oi := { dst := some 18, op := Go.Op.move (Go.Operand.tmp 3), type := 96, pos := "rows.go:178", after := #[], guard := none }) (v := ?_) rfl (by kernel_rfl) (by kernel_rfl) (by kernel_rfl) (fun _ _ _ h => h) (Or.inl ⟨by rfl, ?_⟩) hHeld ?_
  rotate_left 1
  · (intro w hSw; (try dsimp only at hSw); go_simp <;> with_reducible rfl)
  simp only [Act.put, List.setIfInBounds_toArray, List.set_cons_zero, List.set_cons_succ]
  refine wpAnyH_take (i := 6) (oi := { dst := some 19, op := Go.Op.nilCheck (Go.Operand.tmp 18), type := 0, pos := "rows.go:178", after := #[{ on := 5, ground := Go.Ground.data }], guard := none }) (v := ?_) rfl (by kernel_rfl) (by kernel_rfl) (by kernel_rfl) (fun _ _ _ h => h) (Or.inl ⟨by rfl, ?_⟩) hHeld ?_
  rotate_left 1
  · (intro w hSw; (try dsimp only at hSw); go_simp <;> with_reducible rfl)
  simp only [Act.put, List.setIfInBounds_toArray, List.set_cons_zero, List.set_cons_succ]
  refine wpAnyH_take (i := 7) (oi := { dst := some 20, op := Go.Op.fieldAddr 37 (Go.Operand.tmp 19) 1, type := 0, pos := "rows.go:178", after := #[{ on := 6, ground := Go.Ground.data }], guard := none }) (v := ?_) rfl (by kernel_rfl) (by kernel_rfl) (by kernel_rfl) (fun _ _ _ h => h) (Or.inl ⟨by rfl, ?_⟩) hHeld ?_
  rotate_left 1
  · (intro w hSw; (try dsimp only at hSw); go_simp <;> with_reducible rfl)
  simp only [Act.put, List.setIfInBounds_toArray, List.set_cons_zero, List.set_cons_succ]
  refine wpAnyH_take (i := 8) (oi := { dst := some 21, op := Go.Op.load 3 (Go.Operand.tmp 20), type := 3, pos := "rows.go:178", after := #[{ on := 7, ground := Go.Ground.data }], guard := none }) (v := ?_) rfl (by kernel_rfl) (by kernel_rfl) (by kernel_rfl) (fun _ _ _ h => h) (Or.inl ⟨by rfl, ?_⟩) hHeld ?_
  rotate_left 1
  · (intro w hSw; (try dsimp only at hSw); go_simp <;> with_reducible rfl)
  simp only [Act.put, List.setIfInBounds_toArray, List.set_cons_zero, List.set_cons_succ]
  refine wpAnyH_take (i := 10) (oi := { dst := some 23, op := Go.Op.move (Go.Operand.tmp 3), type := 96, pos := "rows.go:178", after := #[], guard := none }) (v := ?_) rfl (by kernel_rfl) (by kernel_rfl) (by kernel_rfl) (fun _ _ _ h => h) (Or.inl ⟨by rfl, ?_⟩) hHeld ?_
  rotate_left 1
  · (intro w hSw; (try dsimp only at hSw); go_simp <;> with_reducible rfl)
  simp only [Act.put, List.setIfInBounds_toArray, List.set_cons_zero, List.set_cons_succ]
  refine wpAnyH_take (i := 11) (oi := { dst := some 24, op := Go.Op.nilCheck (Go.Operand.tmp 23), type := 0, pos := "rows.go:178", after := #[{ on := 10, ground := Go.Ground.data }], guard := none }) (v := ?_) rfl (by kernel_rfl) (by kernel_rfl) (by kernel_rfl) (fun _ _ _ h => h) (Or.inl ⟨by rfl, ?_⟩) hHeld ?_
  rotate_left 1
  · (intro w hSw; (try dsimp only at hSw); go_simp <;> with_reducible rfl)
  simp only [Act.put, List.setIfInBounds_toArray, List.set_cons_zero, List.set_cons_succ]
  refine wpAnyH_take (i := 12) (oi := { dst := some 25, op := Go.Op.fieldAddr 37 (Go.Operand.tmp 24) 2, type := 0, pos := "rows.go:178", after := #[{ on := 11, ground := Go.Ground.data }], guard := none }) (v := ?_) rfl (by kernel_rfl) (by kernel_rfl) (by kernel_rfl) (fun _ _ _ h => h) (Or.inl ⟨by rfl, ?_⟩) hHeld ?_
  rotate_left 1
  · (intro w hSw; (try dsimp only at hSw); go_simp <;> with_reducible rfl)
  simp only [Act.put, List.setIfInBounds_toArray, List.set_cons_zero, List.set_cons_succ]
  refine wpAnyH_take (i := 13) (oi := { dst := some 26, op := Go.Op.load 26 (Go.Operand.tmp 25), type := 26, pos := "rows.go:178", after := #[{ on := 12, ground := Go.Ground.data }], guard := none }) (v := ?_) rfl (by kernel_rfl) (by kernel_rfl) (by kernel_rfl) (fun _ _ _ h => h) (Or.inl ⟨by rfl, ?_⟩) hHeld ?_
  rotate_left 1
  · (intro w hSw; (try dsimp only at hSw); go_simp <;> with_reducible rfl)
  simp only [Act.put, List.setIfInBounds_toArray, List.set_cons_zero, List.set_cons_succ]
  refine wpAnyH_take (i := 14) (oi := { dst := some 27, op := Go.Op.convert 26 9 (Go.Operand.tmp 26), type := 9, pos := "rows.go:178", after := #[{ on := 13, ground := Go.Ground.data }], guard := none }) (v := .string (str row)) rfl (by kernel_rfl) (by kernel_rfl) (by kernel_rfl) (fun _ _ _ h => h) (Or.inl ⟨by rfl, ?_⟩) hHeld ?_
  · (intro w hSw; (try dsimp only at hSw); have hcv := conv_string w p c row hSw.2.2.2; rw [str_nums] at hcv; go_simp <;> with_reducible rfl)
  simp only [Act.put, List.setIfInBounds_toArray, List.set_cons_zero, List.set_cons_succ]
  refine wpAnyH_ready (rs := [4]) (by kernel_rfl) (by simp) ?_
  refine AllReadyH.cons (o := { dst := some 17, op := Go.Op.call { callee := Go.Callee.value (Go.Operand.func 100), args := #[Go.Operand.const (Go.Value.slice none 0 0), Go.Operand.tmp 16], argTypes := #[26, 9] }, type := 26, pos := "rows.go:178", after := #[{ on := 3, ground := Go.Ground.data }], guard := none }) rfl (fun K hK => ?_) AllReadyH.nil
  go_simp
  refine (T1.out w.drew).mono ?_
  rintro e w2 ⟨g2, hg2, rfl, hh2, hb2⟩
  have b2 : Below w.heap.size w w2 := drewBd hb2
  clear hHeld
  refine hK.out _ _ (⟨cell_below k0 b2, cell_below k1 b2, cell_below k2 b2, holds_below hh b2⟩) (fun hHeld => ?_)
  clear hK K
  refine wpAnyH_ready (rs := [9]) (by kernel_rfl) (by simp) ?_
  refine AllReadyH.cons (o := { dst := some 22, op := Go.Op.call { callee := Go.Callee.value (Go.Operand.func 72), args := #[Go.Operand.tmp 17, Go.Operand.tmp 21], argTypes := #[26, 3] }, type := 26, pos := "rows.go:178", after := #[{ on := 4, ground := Go.Ground.data }, { on := 8, ground := Go.Ground.data }, { on := 4, ground := Go.Ground.chain }], guard := none }) rfl (fun K hK => ?_) AllReadyH.nil
  go_simp
  refine (T2.out w2 _ hh2).mono ?_
  rintro e w3 ⟨g3, hg3, rfl, hh3, hb3⟩
  have b3 : Below w.heap.size w w3 := bel2 b2 hb3
  clear hHeld
  refine hK.out _ _ (⟨cell_below k0 b3, cell_below k1 b3, cell_below k2 b3, holds_below hh b3⟩) (fun hHeld => ?_)
  clear hK K
  refine wpAnyH_ready (rs := [15]) (by kernel_rfl) (by simp) ?_
  refine AllReadyH.cons (o := { dst := some 28, op := Go.Op.call { callee := Go.Callee.value (Go.Operand.func 100), args := #[Go.Operand.tmp 22, Go.Operand.tmp 27], argTypes := #[26, 9] }, type := 26, pos := "rows.go:178", after := #[{ on := 9, ground := Go.Ground.data }, { on := 14, ground := Go.Ground.data }, { on := 9, ground := Go.Ground.chain }], guard := none }) rfl (fun K hK => ?_) AllReadyH.nil
  go_simp
  refine (T3.out w3 _ hh3).mono ?_
  rintro e w4 ⟨g4, hg4, rfl, hh4, hb4⟩
  have b4 : Below w.heap.size w w4 := bel2 b3 hb4
  clear hHeld
  refine hK.out _ _ (⟨cell_below k0 b4, cell_below k1 b4, cell_below k2 b4, holds_below hh b4⟩) (fun hHeld => ?_)
  clear hK K
  refine wpAnyH_ready (rs := [16]) (by kernel_rfl) (by simp) ?_
  refine AllReadyH.cons (o := { dst := some 2, op := Go.Op.assign (Go.Operand.tmp 28), type := 26, pos := "rows.go:178", after := #[{ on := 15, ground := Go.Ground.data }, { on := 15, ground := Go.Ground.chain }, { on := 0, ground := Go.Ground.phase }, { on := 1, ground := Go.Ground.phase }, { on := 2, ground := Go.Ground.phase }, { on := 3, ground := Go.Ground.phase }, { on := 4, ground := Go.Ground.phase }, { on := 5, ground := Go.Ground.phase }, { on := 6, ground := Go.Ground.phase }, { on := 7, ground := Go.Ground.phase }, { on := 8, ground := Go.Ground.phase }, { on := 9, ground := Go.Ground.phase }, { on := 10, ground := Go.Ground.phase }, { on := 11, ground := Go.Ground.phase }, { on := 12, ground := Go.Ground.phase }, { on := 13, ground := Go.Ground.phase }, { on := 14, ground := Go.Ground.phase }, { on := 15, ground := Go.Ground.phase }], guard := none }) rfl (fun K hK => ?_) AllReadyH.nil
  go_simp
  clear hHeld
  refine hK.out _ _ (⟨cell_below k0 b4, cell_below k1 b4, cell_below k2 b4, holds_below hh b4⟩) (fun hHeld => ?_)
  clear hK K
  refine wpAnyH_done (by kernel_rfl) ?_ _
  have HF : Hid (NB w L3 (.returned (.slice (some ⟨g4, 0, none⟩) L3.length L3.length)) w4) := ⟨g4, Nat.le_trans b3.size hg4, rfl, hh4, b4⟩
  clear b2 b3 b4 hb2 hb3 hb4 hh2 hh3 hh4 hg2 hg3 hg4
  go_wp2_with fail
  go_ret
  exact HF.out
/-- What is written of a branch ahead of its events. -/
def encH (x : Bn) : List UInt8 := encT x.key.data.toList ++ enc x.ev.length
theorem encH_more (x : Bn) : encBn x = encH x ++ x.ev.flatMap encT := by rw [encBn, encH, encL, List.append_assoc]
theorem flat_lenR {α : Type} (f : α → List UInt8) (n : Nat) (xs : List α) (h : ∀ x ∈ xs, (f x).length ≤ n) : (xs.flatMap f).length ≤ xs.length * n := by
  induction xs with
  | nil => simp
  | cons x xs ih =>
    have h1 := h x (List.mem_cons_self ..)
    have h2 := ih fun y hy => h y (List.mem_cons_of_mem _ hy)
    rw [List.flatMap_cons, List.length_append, List.length_cons, Nat.add_mul]
    omega
theorem enc_pos (n : Nat) : 0 < (enc n).length := by
  unfold enc
  split <;> simp
theorem encT_pos (s : List UInt8) : 0 < (encT s).length := by
  have := enc_pos s.length
  unfold encT
  rw [List.length_append]
  omega
set_option maxHeartbeats 8000000 in
set_option maxRecDepth 100000 in
theorem encBr_calls (w : World) (B o : Nat) (x : Bn) (v : Value) (hk0 : w.cell? ⟨B, o, none⟩ = some (.string x.key)) (hk1 : w.cell? ⟨B, o + 1, none⟩ = some v) (hv : Sl evE (fun _ => True) w v x.ev) (hx : LimB x) :
    Calls Try.prog 74 #[.pointer (some ⟨B, o, none⟩)] w fun e w' => (∃ u, e = .returned u ∧ Ub w.heap.size w' u (encBn x)) ∧ Below w.heap.size w w' := by
  obtain ⟨p, c, rfl, _, _, hls⟩ := hv
  obtain ⟨N, hN⟩ : ∃ N, N = x.ev.length := ⟨_, rfl⟩
  obtain ⟨L1, hL1⟩ : ∃ L, L = encT x.key.data.toList := ⟨_, rfl⟩
  obtain ⟨L2, hL2⟩ : ∃ L, L = encH x := ⟨_, rfl⟩
  have hb0 := encT_length x.key.data.toList (by have := hx.key; omega)
  have hb1 := enc_length x.ev.length (by have := hx.len; omega)
  have hk64 := hx.key
  have hn := hx.len
  have l1 : L1.length ≤ 73 := by rw [hL1]; omega
  have l2 : L2.length ≤ 82 := by rw [hL2, encH, List.length_append]; omega
  have e2 : L2 = L1 ++ enc ((N : Nat) : Int).toNat := by rw [hL2, encH, hL1, hN, Int.toNat_natCast]
  have HX : Hid (LimB x) := hx
  have HLS : Hid (Ls evE (fun _ => True) w p x.ev) := hls
  have HN : Hid (N = x.ev.length ∧ N ≤ 120) := ⟨hN, by omega⟩
  have HL : Hid (L2 = encH x ∧ L2.length ≤ 82) := ⟨hL2, l2⟩
  rw [← hN] at hk1
  have T1 : Hid (∀ W, Calls Try.prog 100 #[.slice none 0 0, .string x.key] W (NB W L1)) := fun W => by rw [hL1]; exact textN x.key W (by omega)
  have T2 : Hid (∀ W v, Lib.HoldsBytes W v L1 → Calls Try.prog 72 #[v, .int .i64 (N : Int)] W (NB W L2)) := fun W v h => by rw [e2]; exact num_calls v L1 (N : Int) (by omega) W h (by omega)
  have k0 := hk0
  have k1 := hk1
  have K1 : Hid (w.cell? ⟨B, o + 1, none⟩ = _) := hk1
  generalize hkey : x.key = key at T1 k0
  clear hk0 hk1 hls hx hL1 hL2 hN e2 l1 l2 hb0 hb1 hk64 hn hkey
  go_enter Try.func74, Try.ntmps74
  go_upto_region 7 with (simp only [ta98, ta9n])
  go_cut [5] (fun u wx => Hid (Ub w.heap.size wx u L2 ∧ Below w.heap.size w wx))
  case first =>
    refine wp_region_held_drew (S := (fun W => W.cell? ⟨B, o, none⟩ = some (.string key) ∧ W.cell? ⟨B, o + 1, none⟩ = some (.slice p N c))) (by kernel_rfl) ⟨k0, k1⟩ (fun hHeld => ?_)
    change wpAnyH _ _ _ _ _ _ _ _ (World.drew _)
    refine wpAnyH_take (i := 0) (oi := { dst := some 32, op := Go.Op.move (Go.Operand.tmp 4), type := 98, pos := "rows.go:180", after := #[], guard := none }) (v := ?_) rfl (by kernel_rfl) (by kernel_rfl) (by kernel_rfl) (fun _ _ _ h => h) (Or.inl ⟨by rfl, ?_⟩) hHeld ?_
    rotate_left 1
    · (intro w hSw; (try dsimp only at hSw); go_simp <;> with_reducible rfl)
    simp only [Act.put, List.setIfInBounds_toArray, List.set_cons_zero, List.set_cons_succ]
    refine wpAnyH_take (i := 1) (oi := { dst := some 33, op := Go.Op.nilCheck (Go.Operand.tmp 32), type := 0, pos := "rows.go:180", after := #[{ on := 0, ground := Go.Ground.data }], guard := none }) (v := ?_) rfl (by kernel_rfl) (by kernel_rfl) (by kernel_rfl) (fun _ _ _ h => h) (Or.inl ⟨by rfl, ?_⟩) hHeld ?_
    rotate_left 1
    · (intro w hSw; (try dsimp only at hSw); go_simp <;> with_reducible rfl)
    simp only [Act.put, List.setIfInBounds_toArray, List.set_cons_zero, List.set_cons_succ]
    refine wpAnyH_take (i := 2) (oi := { dst := some 34, op := Go.Op.fieldAddr 56 (Go.Operand.tmp 33) 0, type := 0, pos := "rows.go:180", after := #[{ on := 1, ground := Go.Ground.data }], guard := none }) (v := ?_) rfl (by kernel_rfl) (by kernel_rfl) (by kernel_rfl) (fun _ _ _ h => h) (Or.inl ⟨by rfl, ?_⟩) hHeld ?_
    rotate_left 1
    · (intro w hSw; (try dsimp only at hSw); go_simp <;> with_reducible rfl)
    simp only [Act.put, List.setIfInBounds_toArray, List.set_cons_zero, List.set_cons_succ]
    refine wpAnyH_take (i := 3) (oi := { dst := some 35, op := Go.Op.load 9 (Go.Operand.tmp 34), type := 9, pos := "rows.go:180", after := #[{ on := 2, ground := Go.Ground.data }], guard := none }) (v := ?_) rfl (by kernel_rfl) (by kernel_rfl) (by kernel_rfl) (fun _ _ _ h => h) (Or.inl ⟨by rfl, ?_⟩) hHeld ?_
    rotate_left 1
    · (intro w hSw; (try dsimp only at hSw); go_simp <;> with_reducible rfl)
    simp only [Act.put, List.setIfInBounds_toArray, List.set_cons_zero, List.set_cons_succ]
    refine wpAnyH_take (i := 5) (oi := { dst := some 37, op := Go.Op.move (Go.Operand.tmp 4), type := 98, pos := "rows.go:180", after := #[], guard := none }) (v := ?_) rfl (by kernel_rfl) (by kernel_rfl) (by kernel_rfl) (fun _ _ _ h => h) (Or.inl ⟨by rfl, ?_⟩) hHeld ?_
    rotate_left 1
    · (intro w hSw; (try dsimp only at hSw); go_simp <;> with_reducible rfl)
    simp only [Act.put, List.setIfInBounds_toArray, List.set_cons_zero, List.set_cons_succ]
    refine wpAnyH_take (i := 6) (oi := { dst := some 38, op := Go.Op.nilCheck (Go.Operand.tmp 37), type := 0, pos := "rows.go:180", after := #[{ on := 5, ground := Go.Ground.data }], guard := none }) (v := ?_) rfl (by kernel_rfl) (by kernel_rfl) (by kernel_rfl) (fun _ _ _ h => h) (Or.inl ⟨by rfl, ?_⟩) hHeld ?_
    rotate_left 1
    · (intro w hSw; (try dsimp only at hSw); go_simp <;> with_reducible rfl)
    simp only [Act.put, List.setIfInBounds_toArray, List.set_cons_zero, List.set_cons_succ]
    refine wpAnyH_take (i := 7) (oi := { dst := some 39, op := Go.Op.fieldAddr 56 (Go.Operand.tmp 38) 1, type := 0, pos := "rows.go:180", after := #[{ on := 6, ground := Go.Ground.data }], guard := none }) (v := ?_) rfl (by kernel_rfl) (by kernel_rfl) (by kernel_rfl) (fun _ _ _ h => h) (Or.inl ⟨by rfl, ?_⟩) hHeld ?_
    rotate_left 1
    · (intro w hSw; (try dsimp only at hSw); go_simp <;> with_reducible rfl)
    simp only [Act.put, List.setIfInBounds_toArray, List.set_cons_zero, List.set_cons_succ]
    refine wpAnyH_take (i := 8) (oi := { dst := some 40, op := Go.Op.load 40 (Go.Operand.tmp 39), type := 40, pos := "rows.go:180", after := #[{ on := 7, ground := Go.Ground.data }], guard := none }) (v := ?_) rfl (by kernel_rfl) (by kernel_rfl) (by kernel_rfl) (fun _ _ _ h => h) (Or.inl ⟨by rfl, ?_⟩) hHeld ?_
    rotate_left 1
    · (intro w hSw; (try dsimp only at hSw); go_simp <;> with_reducible rfl)
    simp only [Act.put, List.setIfInBounds_toArray, List.set_cons_zero, List.set_cons_succ]
    refine wpAnyH_ready (rs := [4, 9]) (by kernel_rfl) (by simp) ?_
    refine AllReadyH.cons (o := { dst := some 36, op := Go.Op.call { callee := Go.Callee.value (Go.Operand.func 100), args := #[Go.Operand.const (Go.Value.slice none 0 0), Go.Operand.tmp 35], argTypes := #[26, 9] }, type := 26, pos := "rows.go:180", after := #[{ on := 3, ground := Go.Ground.data }], guard := none }) rfl (fun K hK => ?_) (AllReadyH.cons (o := { dst := some 41, op := Go.Op.call { callee := Go.Callee.builtin Go.Builtin.len, args := #[Go.Operand.tmp 40], argTypes := #[40] }, type := 3, pos := "rows.go:180", after := #[{ on := 8, ground := Go.Ground.data }], guard := none }) rfl (fun K hK => ?_) AllReadyH.nil)
    · go_simp
      refine (T1.out w.drew).mono ?_
      rintro e w2 ⟨g2, hg2, rfl, hh2, hb2⟩
      have b2 : Below w.heap.size w w2 := drewBd hb2
      clear hHeld
      refine hK.out _ _ (⟨cell_below k0 b2, cell_below k1 b2⟩) (fun hHeld => ?_)
      clear hK K
      refine wpAnyH_ready (rs := [9]) (by kernel_rfl) (by simp) ?_
      refine AllReadyH.cons (o := { dst := some 41, op := Go.Op.call { callee := Go.Callee.builtin Go.Builtin.len, args := #[Go.Operand.tmp 40], argTypes := #[40] }, type := 3, pos := "rows.go:180", after := #[{ on := 8, ground := Go.Ground.data }], guard := none }) rfl (fun K hK => ?_) AllReadyH.nil
      go_simp
      clear hHeld
      refine hK.out _ _ (⟨cell_below k0 b2, cell_below k1 b2⟩) (fun hHeld => ?_)
      clear hK K
      refine wpAnyH_ready (rs := [10]) (by kernel_rfl) (by simp) ?_
      refine AllReadyH.cons (o := { dst := some 42, op := Go.Op.call { callee := Go.Callee.value (Go.Operand.func 72), args := #[Go.Operand.tmp 36, Go.Operand.tmp 41], argTypes := #[26, 3] }, type := 26, pos := "rows.go:180", after := #[{ on := 4, ground := Go.Ground.data }, { on := 9, ground := Go.Ground.data }, { on := 4, ground := Go.Ground.chain }], guard := none }) rfl (fun K hK => ?_) AllReadyH.nil
      go_simp
      refine (T2.out w2 _ hh2).mono ?_
      rintro e w3 ⟨g3, hg3, rfl, hh3, hb3⟩
      have b3 : Below w.heap.size w w3 := bel2 b2 hb3
      clear hHeld
      refine hK.out _ _ (⟨cell_below k0 b3, cell_below k1 b3⟩) (fun hHeld => ?_)
      clear hK K
      refine wpAnyH_ready (rs := [11]) (by kernel_rfl) (by simp) ?_
      refine AllReadyH.cons (o := { dst := some 5, op := Go.Op.assign (Go.Operand.tmp 42), type := 26, pos := "rows.go:180", after := #[{ on := 10, ground := Go.Ground.data }, { on := 10, ground := Go.Ground.chain }, { on := 0, ground := Go.Ground.phase }, { on := 1, ground := Go.Ground.phase }, { on := 2, ground := Go.Ground.phase }, { on := 3, ground := Go.Ground.phase }, { on := 4, ground := Go.Ground.phase }, { on := 5, ground := Go.Ground.phase }, { on := 6, ground := Go.Ground.phase }, { on := 7, ground := Go.Ground.phase }, { on := 8, ground := Go.Ground.phase }, { on := 9, ground := Go.Ground.phase }, { on := 10, ground := Go.Ground.phase }], guard := none }) rfl (fun K hK => ?_) AllReadyH.nil
      go_simp
      clear hHeld
      refine hK.out _ _ (⟨cell_below k0 b3, cell_below k1 b3⟩) (fun hHeld => ?_)
      clear hK K
      refine wpAnyH_done (by kernel_rfl) ?_ _
      go_wp2_with fail
      go_meet
      case rel => exact ⟨.inr ⟨g3, Nat.le_trans b2.size hg3, rfl, hh3⟩, b3⟩
    · go_simp
      clear hHeld
      refine hK.out _ _ (⟨k0, k1⟩) (fun hHeld => ?_)
      clear hK K
      refine wpAnyH_ready (rs := [4]) (by kernel_rfl) (by simp) ?_
      refine AllReadyH.cons (o := { dst := some 36, op := Go.Op.call { callee := Go.Callee.value (Go.Operand.func 100), args := #[Go.Operand.const (Go.Value.slice none 0 0), Go.Operand.tmp 35], argTypes := #[26, 9] }, type := 26, pos := "rows.go:180", after := #[{ on := 3, ground := Go.Ground.data }], guard := none }) rfl (fun K hK => ?_) AllReadyH.nil
      go_simp
      refine (T1.out w.drew).mono ?_
      rintro e w2 ⟨g2, hg2, rfl, hh2, hb2⟩
      have b2 : Below w.heap.size w w2 := drewBd hb2
      clear hHeld
      refine hK.out _ _ (⟨cell_below k0 b2, cell_below k1 b2⟩) (fun hHeld => ?_)
      clear hK K
      refine wpAnyH_ready (rs := [10]) (by kernel_rfl) (by simp) ?_
      refine AllReadyH.cons (o := { dst := some 42, op := Go.Op.call { callee := Go.Callee.value (Go.Operand.func 72), args := #[Go.Operand.tmp 36, Go.Operand.tmp 41], argTypes := #[26, 3] }, type := 26, pos := "rows.go:180", after := #[{ on := 4, ground := Go.Ground.data }, { on := 9, ground := Go.Ground.data }, { on := 4, ground := Go.Ground.chain }], guard := none }) rfl (fun K hK => ?_) AllReadyH.nil
      go_simp
      refine (T2.out w2 _ hh2).mono ?_
      rintro e w3 ⟨g3, hg3, rfl, hh3, hb3⟩
      have b3 : Below w.heap.size w w3 := bel2 b2 hb3
      clear hHeld
      refine hK.out _ _ (⟨cell_below k0 b3, cell_below k1 b3⟩) (fun hHeld => ?_)
      clear hK K
      refine wpAnyH_ready (rs := [11]) (by kernel_rfl) (by simp) ?_
      refine AllReadyH.cons (o := { dst := some 5, op := Go.Op.assign (Go.Operand.tmp 42), type := 26, pos := "rows.go:180", after := #[{ on := 10, ground := Go.Ground.data }, { on := 10, ground := Go.Ground.chain }, { on := 0, ground := Go.Ground.phase }, { on := 1, ground := Go.Ground.phase }, { on := 2, ground := Go.Ground.phase }, { on := 3, ground := Go.Ground.phase }, { on := 4, ground := Go.Ground.phase }, { on := 5, ground := Go.Ground.phase }, { on := 6, ground := Go.Ground.phase }, { on := 7, ground := Go.Ground.phase }, { on := 8, ground := Go.Ground.phase }, { on := 9, ground := Go.Ground.phase }, { on := 10, ground := Go.Ground.phase }], guard := none }) rfl (fun K hK => ?_) AllReadyH.nil
      go_simp
      clear hHeld
      refine hK.out _ _ (⟨cell_below k0 b3, cell_below k1 b3⟩) (fun hHeld => ?_)
      clear hK K
      refine wpAnyH_done (by kernel_rfl) ?_ _
      go_wp2_with fail
      go_meet
      case rel => exact ⟨.inr ⟨g3, Nat.le_trans b2.size hg3, rfl, hh3⟩, b3⟩
  case rest =>
    obtain ⟨hu, hbc⟩ := hcut.out
    obtain ⟨pu, cu, hue⟩ := hu.shp
    have HU : Hid (Ub w.heap.size wc _ L2 ∧ Below w.heap.size w wc) := ⟨hu, hbc⟩
    have k1 := cell_below K1.out hbc
    clear hu hbc hcut k0 T1 T2 hue
    go_wp2_with fail
    go_loopw [5, 7, 48] (fun u _ i wr => ∃ j : Nat, j ≤ N ∧ i = .int .i64 (j : Int) ∧ Hid (Ub w.heap.size wr u (L2 ++ (x.ev.take j).flatMap encT)) ∧ Hid (Below w.heap.size w wr)) (fun _ _ i _ => N - (intOf i).toNat)
    case atStart => exact ⟨0, Nat.zero_le _, rfl, by show Ub _ _ _ _; rw [List.take_zero, List.flatMap_nil, List.append_nil]; exact HU.out.1, HU.out.2⟩
    case round =>
      obtain ⟨j, hj, rfl, HUj, HB⟩ := hrel
      by_cases hlt : j < N
      · have hjl : (j : Int) < (N : Int) := by omega
        obtain ⟨y, hy⟩ : ∃ y, x.ev[j]? = some y := ⟨_, List.getElem?_eq_getElem (by have := HN.out.1; omega)⟩
        obtain ⟨B', o', ve, rfl, _, g0, hve⟩ := HLS.out.ev j y hy
        obtain ⟨pe, ce, rfl, _⟩ := hve.shape
        have g0 := cell_below g0 HB.out
        have hcv := conv_string wr pe ce y ((hve.below HB.out).bytes)
        rw [str_nums] at hcv
        have hy4 : y.length ≤ 4096 := HX.out.ev y (List.mem_of_getElem? hy)
        have HT : Hid (∀ W, Calls Try.prog 100 #[.slice none 0 0, .string (str y)] W (NB W (encT y))) := fun W => by
          have h := textN (str y) W (by rw [data_str]; omega)
          rwa [data_str] at h
        have HLT : Hid ((encT y).length ≤ 4105 ∧ 0 < (encT y).length) := ⟨by have := encT_length y (by omega); omega, encT_pos y⟩
        have HS : Hid (L2 ++ (x.ev.take (j + 1)).flatMap encT = L2 ++ (x.ev.take j).flatMap encT ++ encT y) := by
          show _ = _
          rw [List.take_add_one, hy, List.flatMap_append, ← List.append_assoc]
          simp
        have HLL : Hid ((L2 ++ (x.ev.take j).flatMap encT).length ≤ 82 + 120 * 4105) := by
          show _ ≤ _
          have h1 := flat_lenR encT 4105 (x.ev.take j) (fun z hz => by
            have h2 := HX.out.ev z (List.mem_of_mem_take hz)
            have h3 := encT_length z (by omega)
            omega)
          have h4 := HL.out.2
          have h5 := HN.out
          rw [List.length_take] at h1
          rw [List.length_append]
          have h6 : min j x.ev.length ≤ 120 := by omega
          have h7 := Nat.mul_le_mul_right 4105 h6
          omega
        have HW : Hid (wrap64 ((j : Int) + 1) = ((j + 1 : Nat) : Int)) := wr1 hlt (by have := HN.out; omega)
        generalize encT y = T at HT HLT HS
        obtain ⟨pu, cu, hue⟩ := HUj.out.shp
        subst hue
        generalize (L2 ++ (x.ev.take j).flatMap encT) = A at HUj HS HLL
        clear hy hve hj hy4
        go_wp2_with fail
        refine (HT.out wr).mono ?_
        rintro e w4 ⟨g4, gl4, rfl, gh4, gb4⟩
        have hb4 := HB.out.trans (gb4.mono HB.out.size)
        obtain ⟨u', w5, hr5, ho5, hb5⟩ := ub_app (HUj.out.blw gb4) gh4 HLT.out.2 (by have := HLL.out; have := HLT.out; omega) hb4.size
        have HU5 : Hid (Ub w.heap.size w5 u' (L2 ++ (x.ev.take (j + 1)).flatMap encT)) := by rw [HS.out]; exact ho5
        have HB5 : Hid (Below w.heap.size w w5) := hb4.trans hb5
        have HR5 : Hid (∀ ty, _ = _) := hr5
        clear gh4 gb4 gl4 hr5 ho5 hb5 hb4 g0 hcv
        go_wp2_with (at_builtin; refine Lib.wpList_append_run _ rfl _ _ 26 26 rfl _ _ rfl rfl _ _ (HR5.out _) ?_)
        exact ⟨⟨j + 1, hlt, by first | rfl | rw [HW.out], HU5, HB5⟩, meas hlt (by first | rfl | exact HW.out)⟩
      · obtain rfl : j = N := by omega
        go_wp2_with fail
        go_ret
        refine ⟨⟨_, rfl, ?_⟩, HB.out⟩
        have h := HUj.out
        rw [HN.out.1, List.take_length, HL.out.1, ← encH_more] at h
        exact h
end Go.Proofs.Ytkaaddahegkmgaa
namespace Go.Proofs.Ytkaaddahegkmgaa
open Go.ChangeShapes Go.WideShapes Go.ChangeAt Go.RowKit
theorem belNe (w : World) : Below w.heap.size w w.drew := (Below.refl _ w).drew
theorem Ub.shp1 {lo : Nat} {w : World} {u : Value} {l : List UInt8} (h : Ub lo w u l) (h0 : 0 < l.length) : ∃ g c, u = .slice (some ⟨g, 0, none⟩) l.length c := by
  rcases h with ⟨_, ⟨rfl, h2⟩ | ⟨g, cap, cur, rfl, _⟩⟩ | ⟨g, h1, h2, h3⟩
  · omega
  · exact ⟨g, cap, rfl⟩
  · exact ⟨g, _, h2⟩
theorem encRw_pos (x : Rw) : 0 < (encRw x).length := by
  have := encT_pos x.key.data.toList
  unfold encRw
  rw [List.length_append]
  omega
theorem encBn_pos (x : Bn) : 0 < (encBn x).length := by
  have := encT_pos x.key.data.toList
  unfold encBn
  rw [List.length_append]
  omega
theorem encRw_len {x : Rw} (h : LimR x) : (encRw x).length ≤ 600000 := by
  have h1 := encT_length x.key.data.toList (by have := h.key; omega)
  have h2 := encT_length x.row (by have := h.row; omega)
  have h3 := enc_length x.ver.toNat (by have := h.hi; omega)
  have h4 := h.key
  have h5 := h.row
  unfold encRw
  rw [List.length_append, List.length_append]
  omega
theorem encBn_len {x : Bn} (h : LimB x) : (encBn x).length ≤ 600000 := by
  have h1 := encT_length x.key.data.toList (by have := h.key; omega)
  have h3 := enc_length x.ev.length (by have := h.len; omega)
  have h4 := h.key
  have h5 := flat_lenR encT 4105 x.ev (fun e he => by
    have h6 := h.ev e he
    have h7 := encT_length e (by omega)
    omega)
  have h8 := Nat.mul_le_mul_right 4105 h.len
  unfold encBn encL
  rw [List.length_append, List.length_append]
  omega
theorem encL_len {α : Type} (f : α → List UInt8) {xs : List α} (hn : xs.length ≤ 10000) (h : ∀ x ∈ xs, (f x).length ≤ 600000) : (encL f xs).length ≤ 6000000009 := by
  have h1 := flat_lenR f 600000 xs h
  have h2 := Nat.mul_le_mul_right 600000 hn
  have h3 := enc_length xs.length (by omega)
  unfold encL
  rw [List.length_append]
  omega
set_option maxHeartbeats 4000000 in
set_option maxRecDepth 100000 in
theorem encAllRow_calls (a : Option Addr) (c : Nat) (xs : List Rw) (w : World) (h : Ls rowE (fun _ => True) w a xs) (hn : xs.length ≤ 10000) (hl : ∀ x ∈ xs, LimR x) :
    Calls Try.prog 45 #[.slice a xs.length c] w fun e w' => (∃ u, e = .returned u ∧ Ub w.heap.size w' u (encL encRw xs)) ∧ Below w.heap.size w w' := by
  obtain ⟨N, hN⟩ : ∃ N, N = xs.length := ⟨_, rfl⟩
  have HLS : Hid (Ls rowE (fun _ => True) w a xs) := h
  have HLM : Hid (∀ x ∈ xs, LimR x) := hl
  have HN : Hid (N = xs.length ∧ N ≤ 10000) := ⟨hN, by omega⟩
  obtain ⟨L2, hL2⟩ : ∃ L, L = enc N := ⟨_, rfl⟩
  have HL2 : Hid (L2 = enc N ∧ L2.length ≤ 9) := ⟨hL2, by rw [hL2]; exact enc_length N (by omega)⟩
  have T2 : Hid (Calls Try.prog 72 #[.slice none 0 0, .int .i64 (N : Int)] w (NB w L2)) := by
    have h := num_calls (.slice none 0 0) [] (N : Int) (by omega) w (holds_nil _) (by simp)
    rw [List.nil_append, Int.toNat_natCast, ← hL2] at h
    exact h
  rw [← hN]
  clear h hl hn hL2 hN
  go_enter Try.func45, Try.ntmps45
  go_wp2_with fail
  refine T2.out.mono ?_
  rintro e w2 ⟨g2, hg2, rfl, hh2, hb2⟩
  have HU : Hid (Ub w.heap.size w2 (.slice (some ⟨g2, 0, none⟩) L2.length L2.length) L2 ∧ Below w.heap.size w w2) := ⟨.inr ⟨g2, hg2, rfl, hh2⟩, hb2⟩
  clear hg2 hh2 hb2 T2
  go_wp2_with fail
  go_loopw [3, 4, 10] (fun u _ i wr => ∃ j : Nat, j ≤ N ∧ i = .int .i64 (j : Int) ∧ Hid (Ub w.heap.size wr u (L2 ++ (xs.take j).flatMap encRw)) ∧ Hid (Below w.heap.size w wr)) (fun _ _ i _ => N - (intOf i).toNat)
  case atStart => exact ⟨0, Nat.zero_le _, rfl, by show Ub _ _ _ _; rw [List.take_zero, List.flatMap_nil, List.append_nil]; exact HU.out.1, HU.out.2⟩
  case round =>
    obtain ⟨j, hj, rfl, HUj, HB⟩ := hrel
    by_cases hlt : j < N
    · have hjl : (j : Int) < (N : Int) := by omega
      obtain ⟨y, hy⟩ : ∃ y, xs[j]? = some y := ⟨_, List.getElem?_eq_getElem (by have := HN.out.1; omega)⟩
      have hym := HLM.out y (List.mem_of_getElem? hy)
      obtain ⟨B, o, vb, rfl, _, k0, k1, k2, hvb⟩ := (HLS.out.below HB.out).row j y hy
      have HT : Hid (Calls Try.prog 73 #[.pointer (some ⟨B, o + j * 3, none⟩)] wr (NB wr (encRw y))) := encRow_calls wr B (o + j * 3) y vb k0 k1 k2 hvb hym
      clear k0 k1 k2 hvb
      have HLT : Hid ((encRw y).length ≤ 600000 ∧ 0 < (encRw y).length) := ⟨encRw_len hym, encRw_pos y⟩
      have HS : Hid (L2 ++ (xs.take (j + 1)).flatMap encRw = L2 ++ (xs.take j).flatMap encRw ++ encRw y) := by
        show _ = _
        rw [List.take_add_one, hy, List.flatMap_append, ← List.append_assoc]
        simp
      have HLL : Hid ((L2 ++ (xs.take j).flatMap encRw).length ≤ 9 + 10000 * 600000) := by
        show _ ≤ _
        have h1 := flat_lenR encRw 600000 (xs.take j) (fun z hz => encRw_len (HLM.out z (List.mem_of_mem_take hz)))
        have h4 := HL2.out.2
        have h5 := HN.out
        rw [List.length_take] at h1
        rw [List.length_append]
        have h6 : min j xs.length ≤ 10000 := by omega
        have h7 := Nat.mul_le_mul_right 600000 h6
        omega
      have HW : Hid (wrap64 ((j : Int) + 1) = ((j + 1 : Nat) : Int)) := wr1 hlt (by have := HN.out; omega)
      generalize encRw y = T at HT HLT HS
      obtain ⟨pu, cu, hue⟩ := HUj.out.shp
      subst hue
      generalize (L2 ++ (xs.take j).flatMap encRw) = A at HUj HS HLL
      clear hy hj hym
      go_wp2_with fail
      refine HT.out.mono ?_
      rintro e w4 ⟨g4, _, rfl, gh4, gb4⟩
      have hb4 := HB.out.trans (gb4.mono HB.out.size)
      obtain ⟨u', w5, hr5, ho5, hb5⟩ := ub_app (HUj.out.blw gb4) gh4 HLT.out.2 (by have := HLL.out; have := HLT.out; omega) hb4.size
      have HU5 : Hid (Ub w.heap.size w5 u' (L2 ++ (xs.take (j + 1)).flatMap encRw)) := by rw [HS.out]; exact ho5
      have HB5 : Hid (Below w.heap.size w w5) := hb4.trans hb5
      have HR5 : Hid (∀ ty, _ = _) := hr5
      clear gh4 gb4 hr5 ho5 hb5 hb4
      go_wp2_with (at_builtin; refine Lib.wpList_append_run _ rfl _ _ 26 26 rfl _ _ rfl rfl _ _ (HR5.out _) ?_)
      exact ⟨⟨j + 1, hlt, by first | rfl | rw [HW.out], HU5, HB5⟩, meas hlt (by first | rfl | exact HW.out)⟩
    · obtain rfl : j = N := by omega
      go_wp2_with fail
      go_ret
      refine ⟨⟨_, rfl, ?_⟩, HB.out⟩
      have h := HUj.out
      rw [HL2.out.1, HN.out.1, List.take_length] at h
      exact h
set_option maxHeartbeats 4000000 in
set_option maxRecDepth 100000 in
theorem encAllBr_calls (a : Option Addr) (c : Nat) (xs : List Bn) (w : World) (h : Ls brE (fun _ => True) w a xs) (hn : xs.length ≤ 10000) (hl : ∀ x ∈ xs, LimB x) :
    Calls Try.prog 46 #[.slice a xs.length c] w fun e w' => (∃ u, e = .returned u ∧ Ub w.heap.size w' u (encL encBn xs)) ∧ Below w.heap.size w w' := by
  obtain ⟨N, hN⟩ : ∃ N, N = xs.length := ⟨_, rfl⟩
  have HLS : Hid (Ls brE (fun _ => True) w a xs) := h
  have HLM : Hid (∀ x ∈ xs, LimB x) := hl
  have HN : Hid (N = xs.length ∧ N ≤ 10000) := ⟨hN, by omega⟩
  obtain ⟨L2, hL2⟩ : ∃ L, L = enc N := ⟨_, rfl⟩
  have HL2 : Hid (L2 = enc N ∧ L2.length ≤ 9) := ⟨hL2, by rw [hL2]; exact enc_length N (by omega)⟩
  have T2 : Hid (Calls Try.prog 72 #[.slice none 0 0, .int .i64 (N : Int)] w (NB w L2)) := by
    have h := num_calls (.slice none 0 0) [] (N : Int) (by omega) w (holds_nil _) (by simp)
    rw [List.nil_append, Int.toNat_natCast, ← hL2] at h
    exact h
  rw [← hN]
  clear h hl hn hL2 hN
  go_enter Try.func46, Try.ntmps46
  go_wp2_with fail
  refine T2.out.mono ?_
  rintro e w2 ⟨g2, hg2, rfl, hh2, hb2⟩
  have HU : Hid (Ub w.heap.size w2 (.slice (some ⟨g2, 0, none⟩) L2.length L2.length) L2 ∧ Below w.heap.size w w2) := ⟨.inr ⟨g2, hg2, rfl, hh2⟩, hb2⟩
  clear hg2 hh2 hb2 T2
  go_wp2_with fail
  go_loopw [3, 4, 10] (fun u _ i wr => ∃ j : Nat, j ≤ N ∧ i = .int .i64 (j : Int) ∧ Hid (Ub w.heap.size wr u (L2 ++ (xs.take j).flatMap encBn)) ∧ Hid (Below w.heap.size w wr)) (fun _ _ i _ => N - (intOf i).toNat)
  case atStart => exact ⟨0, Nat.zero_le _, rfl, by show Ub _ _ _ _; rw [List.take_zero, List.flatMap_nil, List.append_nil]; exact HU.out.1, HU.out.2⟩
  case round =>
    obtain ⟨j, hj, rfl, HUj, HB⟩ := hrel
    by_cases hlt : j < N
    · have hjl : (j : Int) < (N : Int) := by omega
      obtain ⟨y, hy⟩ : ∃ y, xs[j]? = some y := ⟨_, List.getElem?_eq_getElem (by have := HN.out.1; omega)⟩
      have hym := HLM.out y (List.mem_of_getElem? hy)
      obtain ⟨B, o, vb, rfl, _, k0, k1, hvb⟩ := (HLS.out.below HB.out).br j y hy
      have HT : Hid (Calls Try.prog 74 #[.pointer (some ⟨B, o + j * 2, none⟩)] wr fun e w' => (∃ u, e = .returned u ∧ Ub wr.heap.size w' u (encBn y)) ∧ Below wr.heap.size wr w') := encBr_calls wr B (o + j * 2) y vb k0 k1 hvb hym
      clear k0 k1 hvb
      have HLT : Hid ((encBn y).length ≤ 600000 ∧ 0 < (encBn y).length) := ⟨encBn_len hym, encBn_pos y⟩
      have HS : Hid (L2 ++ (xs.take (j + 1)).flatMap encBn = L2 ++ (xs.take j).flatMap encBn ++ encBn y) := by
        show _ = _
        rw [List.take_add_one, hy, List.flatMap_append, ← List.append_assoc]
        simp
      have HLL : Hid ((L2 ++ (xs.take j).flatMap encBn).length ≤ 9 + 10000 * 600000) := by
        show _ ≤ _
        have h1 := flat_lenR encBn 600000 (xs.take j) (fun z hz => encBn_len (HLM.out z (List.mem_of_mem_take hz)))
        have h4 := HL2.out.2
        have h5 := HN.out
        rw [List.length_take] at h1
        rw [List.length_append]
        have h6 : min j xs.length ≤ 10000 := by omega
        have h7 := Nat.mul_le_mul_right 600000 h6
        omega
      have HW : Hid (wrap64 ((j : Int) + 1) = ((j + 1 : Nat) : Int)) := wr1 hlt (by have := HN.out; omega)
      generalize encBn y = T at HT HLT HS
      obtain ⟨pu, cu, hue⟩ := HUj.out.shp
      subst hue
      generalize (L2 ++ (xs.take j).flatMap encBn) = A at HUj HS HLL
      clear hy hj hym
      go_wp2_with fail
      refine HT.out.mono ?_
      rintro e w4 ⟨⟨u4, rfl, hu4⟩, gb4⟩
      obtain ⟨g4, c4, rfl⟩ := hu4.shp1 HLT.out.2
      have gh4 := hu4.holds
      have hb4 := HB.out.trans (gb4.mono HB.out.size)
      obtain ⟨u', w5, hr5, ho5, hb5⟩ := ub_app (HUj.out.blw gb4) gh4 HLT.out.2 (by have := HLL.out; have := HLT.out; omega) hb4.size
      have HU5 : Hid (Ub w.heap.size w5 u' (L2 ++ (xs.take (j + 1)).flatMap encBn)) := by rw [HS.out]; exact ho5
      have HB5 : Hid (Below w.heap.size w w5) := hb4.trans hb5
      have HR5 : Hid (∀ ty, _ = _) := hr5
      clear gh4 gb4 hr5 ho5 hb5 hb4
      go_wp2_with (at_builtin; refine Lib.wpList_append_run _ rfl _ _ 26 26 rfl _ _ rfl rfl _ _ (HR5.out _) ?_)
      exact ⟨⟨j + 1, hlt, by first | rfl | rw [HW.out], HU5, HB5⟩, meas hlt (by first | rfl | exact HW.out)⟩
    · obtain rfl : j = N := by omega
      go_wp2_with fail
      go_ret
      refine ⟨⟨_, rfl, ?_⟩, HB.out⟩
      have h := HUj.out
      rw [HL2.out.1, HN.out.1, List.take_length] at h
      exact h
set_option maxHeartbeats 4000000 in
set_option maxRecDepth 100000 in
theorem encode_calls (v : Value) (r : Db) (w : World) (hv : IsR (fun _ => True) w v r) (hl : LimD r) : Calls Try.prog 22 #[v] w fun e w' => ∃ u, e = .returned u ∧ Lib.HoldsBytes w' u (encD r) ∧ Below w.heap.size w w' := by
  obtain ⟨pu, cu, pb, cb, rfl, hu, hb⟩ := hv.shape
  obtain ⟨_, _, e1, _, _, hls1⟩ := hu
  cases e1
  obtain ⟨_, _, e2, _, _, hls2⟩ := hb
  cases e2
  have HU : Hid (Ls rowE (fun _ => True) w pu r.rows) := hls1
  have HB : Hid (Ls brE (fun _ => True) w pb r.brs) := hls2
  have HM : Hid (LimD r) := hl
  obtain ⟨L1, hL1⟩ : ∃ L, L = encL encRw r.rows := ⟨_, rfl⟩
  obtain ⟨L2, hL2⟩ : ∃ L, L = encL encBn r.brs := ⟨_, rfl⟩
  obtain ⟨R, hR⟩ : ∃ R, R = r.rows.length := ⟨_, rfl⟩
  obtain ⟨K, hK⟩ : ∃ K, K = r.brs.length := ⟨_, rfl⟩
  have ee : encD r = L1 ++ L2 := by rw [hL1, hL2]; rfl
  rw [ee, ← hR, ← hK]
  have HLL : Hid (L1.length ≤ 6000000009 ∧ L2.length ≤ 6000000009) := ⟨by rw [hL1]; exact encL_len _ hl.r0 fun x hx => encRw_len (hl.r1 x hx), by rw [hL2]; exact encL_len _ hl.b0 fun x hx => encBn_len (hl.b1 x hx)⟩
  have HA : Hid (Below w.heap.size w (w.alloc (.cells #[.slice pu R cu, .slice pb K cb] 25))) := bel1 _ _
  have e0 := cell_new w #[.slice pu R cu, .slice pb K cb] 25 0
  have e1 : (w.alloc (.cells #[.slice pu R cu, .slice pb K cb] 25)).cell? ⟨w.heap.size, 0 + 1, none⟩ = some (.slice pb K cb) := cell_new w #[.slice pu R cu, .slice pb K cb] 25 1
  have C1 : Hid (∀ W, Below (w.alloc (.cells #[.slice pu R cu, .slice pb K cb] 25)).heap.size (w.alloc (.cells #[.slice pu R cu, .slice pb K cb] 25)) W → Calls Try.prog 45 #[.slice pu R cu] W fun e w' => (∃ u, e = .returned u ∧ Ub W.heap.size w' u L1) ∧ Below W.heap.size W w') := fun W hW => by rw [hR, hL1]; exact encAllRow_calls pu cu r.rows W (HU.out.below (bel2 HA.out hW)) HM.out.r0 HM.out.r1
  have C2 : Hid (∀ W, Below (w.alloc (.cells #[.slice pu R cu, .slice pb K cb] 25)).heap.size (w.alloc (.cells #[.slice pu R cu, .slice pb K cb] 25)) W → Calls Try.prog 46 #[.slice pb K cb] W fun e w' => (∃ u, e = .returned u ∧ Ub W.heap.size w' u L2) ∧ Below W.heap.size W w') := fun W hW => by rw [hK, hL2]; exact encAllBr_calls pb cb r.brs W (HB.out.below (bel2 HA.out hW)) HM.out.b0 HM.out.b1
  clear hls1 hls2 hv hl hL1 hL2 hR hK ee
  go_enter Try.func22, Try.ntmps22
  go_upto_region 1 with fail
  generalize w.alloc (.cells #[.slice pu R cu, .slice pb K cb] 25) = w1 at HA e0 e1 C1 C2 ⊢
  refine wp_region_held_drew (S := (fun W => W.cell? ⟨w.heap.size, 0, none⟩ = some (.slice pu R cu) ∧ W.cell? ⟨w.heap.size, 0 + 1, none⟩ = some (.slice pb K cb))) (by kernel_rfl) ⟨e0, e1⟩ (fun hHeld => ?_)
  change wpAnyH _ _ _ _ _ _ _ _ (World.drew _)
  refine wpAnyH_take (i := 0) (oi := { dst := some 3, op := Go.Op.fieldAddr 25 (Go.Operand.tmp 1) 0, type := 0, pos := "rows.go:164", after := #[], guard := none }) (v := ?_) rfl (by kernel_rfl) (by kernel_rfl) (by kernel_rfl) (fun _ _ _ h => h) (Or.inl ⟨by rfl, ?_⟩) hHeld ?_
  rotate_left 1
  · (intro w hSw; (try dsimp only at hSw); go_simp <;> with_reducible rfl)
  simp only [Act.put, List.setIfInBounds_toArray, List.set_cons_zero, List.set_cons_succ]
  refine wpAnyH_take (i := 1) (oi := { dst := some 4, op := Go.Op.load 22 (Go.Operand.tmp 3), type := 22, pos := "rows.go:164", after := #[{ on := 0, ground := Go.Ground.data }], guard := none }) (v := ?_) rfl (by kernel_rfl) (by kernel_rfl) (by kernel_rfl) (fun _ _ _ h => h) (Or.inl ⟨by rfl, ?_⟩) hHeld ?_
  rotate_left 1
  · (intro w hSw; (try dsimp only at hSw); go_simp <;> with_reducible rfl)
  simp only [Act.put, List.setIfInBounds_toArray, List.set_cons_zero, List.set_cons_succ]
  refine wpAnyH_take (i := 3) (oi := { dst := some 6, op := Go.Op.fieldAddr 25 (Go.Operand.tmp 1) 1, type := 0, pos := "rows.go:164", after := #[], guard := none }) (v := ?_) rfl (by kernel_rfl) (by kernel_rfl) (by kernel_rfl) (fun _ _ _ h => h) (Or.inl ⟨by rfl, ?_⟩) hHeld ?_
  rotate_left 1
  · (intro w hSw; (try dsimp only at hSw); go_simp <;> with_reducible rfl)
  simp only [Act.put, List.setIfInBounds_toArray, List.set_cons_zero, List.set_cons_succ]
  refine wpAnyH_take (i := 4) (oi := { dst := some 7, op := Go.Op.load 23 (Go.Operand.tmp 6), type := 23, pos := "rows.go:164", after := #[{ on := 3, ground := Go.Ground.data }], guard := none }) (v := ?_) rfl (by kernel_rfl) (by kernel_rfl) (by kernel_rfl) (fun _ _ _ h => h) (Or.inl ⟨by rfl, ?_⟩) hHeld ?_
  rotate_left 1
  · (intro w hSw; (try dsimp only at hSw); go_simp <;> with_reducible rfl)
  simp only [Act.put, List.setIfInBounds_toArray, List.set_cons_zero, List.set_cons_succ]
  refine wpAnyH_ready (rs := [2]) (by kernel_rfl) (by simp) ?_
  refine AllReadyH.cons (o := { dst := some 5, op := Go.Op.call { callee := Go.Callee.value (Go.Operand.func 45), args := #[Go.Operand.tmp 4], argTypes := #[22] }, type := 26, pos := "rows.go:164", after := #[{ on := 1, ground := Go.Ground.data }], guard := none }) rfl (fun K hK => ?_) AllReadyH.nil
  go_simp
  refine (C1.out _ (belNe w1)).mono ?_
  rintro e w2 ⟨⟨u2, rfl, h2⟩, hb2⟩
  have b2 : Below w1.heap.size w1 w2 := drewBd hb2
  clear hHeld
  refine hK.out _ _ (⟨cell_below e0 b2, cell_below e1 b2⟩) (fun hHeld => ?_)
  clear hK K
  refine wpAnyH_ready (rs := [5]) (by kernel_rfl) (by simp) ?_
  refine AllReadyH.cons (o := { dst := some 8, op := Go.Op.call { callee := Go.Callee.value (Go.Operand.func 46), args := #[Go.Operand.tmp 7], argTypes := #[23] }, type := 26, pos := "rows.go:164", after := #[{ on := 4, ground := Go.Ground.data }, { on := 2, ground := Go.Ground.chain }], guard := none }) rfl (fun K hK => ?_) AllReadyH.nil
  go_simp
  refine (C2.out w2 b2).mono ?_
  rintro e w3 ⟨⟨u3, rfl, h3⟩, hb3⟩
  have b3 : Below w1.heap.size w1 w3 := bel2 b2 hb3
  have q2 : Lib.HoldsBytes w3 u2 L1 := holds_below h2.holds hb3
  have q3 : Lib.HoldsBytes w3 u3 L2 := h3.holds
  have b4 : Below w1.heap.size w1 (w3.alloc (.cells #[u2, u3] 26)) := bel2 b3 (bel1 _ _)
  obtain ⟨a2, k2, rfl⟩ := h2.shp
  obtain ⟨a3, k3, rfl⟩ := h3.shp
  have P4 := parts_two w3 _ _ L1 L2 q2 q3
  have CC : Hid (Calls Try.prog 44 _ (w3.alloc (.cells #[.slice a2 L1.length k2, .slice a3 L2.length k3] 26)) _) := concat_calls w3.heap.size 2 2 _ [L1, L2] _ rfl P4 (by decide) _ rfl (by have := HLL.out; simp only [Lib.lens, List.map_cons, List.map_nil, List.sum_cons, List.sum_nil]; omega)
  clear hHeld
  refine hK.out _ _ (⟨cell_below e0 b3, cell_below e1 b3⟩) (fun hHeld => ?_)
  clear hK K
  refine wpAnyH_ready (rs := [6]) (by kernel_rfl) (by simp) ?_
  refine AllReadyH.cons (o := { dst := some 9, op := Go.Op.buildSlice 40 2 #[(0, Go.Operand.tmp 5), (1, Go.Operand.tmp 8)], type := 40, pos := "rows.go:164", after := #[{ on := 2, ground := Go.Ground.data }, { on := 5, ground := Go.Ground.data }], guard := none }) rfl (fun K hK => ?_) AllReadyH.nil
  go_simp
  clear hHeld
  refine hK.out _ _ (⟨cell_below e0 b4, cell_below e1 b4⟩) (fun hHeld => ?_)
  clear hK K
  refine wpAnyH_ready (rs := [7]) (by kernel_rfl) (by simp) ?_
  refine AllReadyH.cons (o := { dst := some 10, op := Go.Op.call { callee := Go.Callee.value (Go.Operand.func 44), args := #[Go.Operand.tmp 9], argTypes := #[40] }, type := 26, pos := "rows.go:164", after := #[{ on := 6, ground := Go.Ground.data }, { on := 5, ground := Go.Ground.chain }], guard := none }) rfl (fun K hK => ?_) AllReadyH.nil
  go_simp
  refine CC.out.mono ?_
  rintro e w5 ⟨u5, rfl, h5, hb5⟩
  have b5 : Below w1.heap.size w1 w5 := bel2 b4 hb5
  have HF : Hid (Lib.HoldsBytes w5 u5 (L1 ++ L2) ∧ Below w.heap.size w w5) := ⟨by rw [show L1 ++ L2 = [L1, L2].flatten by simp]; exact h5, bel2 HA.out b5⟩
  clear hHeld
  refine hK.out _ _ (⟨cell_below e0 b5, cell_below e1 b5⟩) (fun hHeld => ?_)
  clear hK K
  refine wpAnyH_ready (rs := [8]) (by kernel_rfl) (by simp) ?_
  refine AllReadyH.cons (o := { dst := some 2, op := Go.Op.assign (Go.Operand.tmp 10), type := 26, pos := "rows.go:164", after := #[{ on := 7, ground := Go.Ground.data }, { on := 7, ground := Go.Ground.chain }, { on := 0, ground := Go.Ground.phase }, { on := 1, ground := Go.Ground.phase }, { on := 2, ground := Go.Ground.phase }, { on := 3, ground := Go.Ground.phase }, { on := 4, ground := Go.Ground.phase }, { on := 5, ground := Go.Ground.phase }, { on := 6, ground := Go.Ground.phase }, { on := 7, ground := Go.Ground.phase }], guard := none }) rfl (fun K hK => ?_) AllReadyH.nil
  go_simp
  clear hHeld
  refine hK.out _ _ (⟨cell_below e0 b5, cell_below e1 b5⟩) (fun hHeld => ?_)
  clear hK K
  refine wpAnyH_done (by kernel_rfl) ?_ _
  clear h5 hb5 b2 b3 b4 b5 h2 h3 hb2 hb3 q2 q3 P4 CC
  go_wp2_with fail
  go_ret
  exact ⟨_, rfl, HF.out.1, HF.out.2⟩
end Go.Proofs.Ytkaaddahegkmgaa
