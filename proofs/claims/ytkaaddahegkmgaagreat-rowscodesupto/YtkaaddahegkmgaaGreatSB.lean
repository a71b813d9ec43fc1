/- The bytes of rows, and what is read of bytes: as data. -/
import Derived.Test.YtkaaddahegkmgaaGreatRB
import Derived.Test.YtkaaddahegkmgaaGreatXA
namespace Go.Proofs.YtkaaddahegkmgaaGreat
/-- The bytes of a text, an event, a row, a branch, a list. -/
def encT (s : List UInt8) : List UInt8 := enc s.length ++ s
def encRw (x : Rw) : List UInt8 := encT x.key.data.toList ++ (enc x.ver.toNat ++ encT x.row)
def encL {α : Type} (f : α → List UInt8) (xs : List α) : List UInt8 := enc xs.length ++ xs.flatMap f
def encBn (x : Bn) : List UInt8 := encT x.key.data.toList ++ encL encT x.ev
def encD (r : Db) : List UInt8 := encL encRw r.rows ++ encL encBn r.brs
/-- What is read one behind the other. -/
def rdL {α : Type} (f : List UInt8 → Int → α × List UInt8 × Int) : Nat → List UInt8 → Int → List α × List UInt8 × Int
  | 0, l, e => ([], l, e)
  | n + 1, l, e => ((f l e).1 :: (rdL f n (f l e).2.1 (f l e).2.2).1, (rdL f n (f l e).2.1 (f l e).2.2).2)
/-- What is read of a list with a number ahead. -/
def rdN {α : Type} (m : Int) (f : List UInt8 → Int → α × List UInt8 × Int) (l : List UInt8) (e : Int) : List α × List UInt8 × Int := rdL f (sNum m l e).1.toNat (sNum m l e).2.1 (sNum m l e).2.2
/-- A row, a branch, rows that are read. -/
def rdRw (l : List UInt8) (e : Int) : Rw × List UInt8 × Int :=
  let a := sText 64 l e
  let b := sNum 2147483648 a.2.1 a.2.2
  let c := sText 524288 b.2.1 b.2.2
  (⟨str a.1, b.1, c.1⟩, c.2)
def rdBn (l : List UInt8) (e : Int) : Bn × List UInt8 × Int :=
  let a := sText 64 l e
  let b := rdN 120 (sText 4096) a.2.1 a.2.2
  (⟨str a.1, b.1⟩, b.2)
def rdD (l : List UInt8) : Db × List UInt8 × Int :=
  let a := rdN 10000 rdRw l 0
  let b := rdN 10000 rdBn a.2.1 a.2.2
  (⟨a.1, b.1⟩, b.2)
/-- What is read where there was an error: the error stays. -/
def Stuck {α : Type} (f : List UInt8 → Int → α × List UInt8 × Int) : Prop := ∀ l e, (f l e).2.2 = 0 → e = 0
/-- What f reads has these bytes, and may be; and is read again. -/
structure Codes {α : Type} (f : List UInt8 → Int → α × List UInt8 × Int) (g : α → List UInt8) (P : α → Prop) : Prop where
  stuck : Stuck f
  inv : ∀ l x t, f l 0 = (x, t, 0) → l = g x ++ t ∧ P x
  fwd : ∀ x t, P x → f (g x ++ t) 0 = (x, t, 0)
theorem num_stuck (m : Int) : Stuck (sNum m) := fun l e h => by
  by_cases he : e = 0
  · exact he
  · rw [sNum_err he] at h
    exact h
theorem text_stuck (m : Int) : Stuck (sText m) := fun l e h => by
  by_cases he : (sNum m l e).2.2 = 0
  · exact num_stuck m l e he
  · unfold sText at h
    rw [if_neg he] at h
    exact absurd h he
theorem text_codes (m : Int) (hm : m < 9223372036854775808) : Codes (sText m) encT (fun s => (s.length : Int) ≤ m) := by
  refine ⟨text_stuck m, fun l x t h => ?_, fun x t h => ?_⟩
  · obtain ⟨h1, h2⟩ := sText_inv h
    exact ⟨by rw [h1, encT, List.append_assoc], h2⟩
  · rw [encT, List.append_assoc]
    exact sText_enc x t m h (by omega)
theorem rdL_stuck {α : Type} {f : List UInt8 → Int → α × List UInt8 × Int} (hf : Stuck f) : ∀ n, Stuck (rdL f n)
  | 0 => fun _ _ h => h
  | n + 1 => fun l e h => hf l e (rdL_stuck hf n _ _ h)
theorem rdL_inv {α : Type} {f : List UInt8 → Int → α × List UInt8 × Int} {g : α → List UInt8} {P : α → Prop} (hf : Codes f g P) : ∀ n l xs t, rdL f n l 0 = (xs, t, 0) → xs.length = n ∧ l = xs.flatMap g ++ t ∧ ∀ x ∈ xs, P x
  | 0, l, xs, t, h => by
    cases h
    exact ⟨rfl, rfl, fun x hx => (by cases hx)⟩
  | n + 1, l, xs, t, h => by
    unfold rdL at h
    have h2 : (rdL f n (f l 0).2.1 (f l 0).2.2).2 = (t, 0) := congrArg Prod.snd h
    have he : (f l 0).2.2 = 0 := rdL_stuck hf.stuck n _ _ (congrArg Prod.snd h2)
    rw [he] at h
    obtain ⟨q, hq⟩ : ∃ q, f l 0 = q := ⟨_, rfl⟩
    obtain ⟨x, l1, e1⟩ := q
    rw [hq] at h he
    dsimp only at h he
    subst he
    obtain ⟨q, hr⟩ : ∃ q, rdL f n l1 0 = q := ⟨_, rfl⟩
    obtain ⟨ys, l2, e2⟩ := q
    rw [hr] at h
    cases h
    obtain ⟨k1, k2, k3⟩ := rdL_inv hf n l1 ys t hr
    obtain ⟨j1, j2⟩ := hf.inv l x l1 hq
    refine ⟨by rw [List.length_cons, k1], by rw [List.flatMap_cons, List.append_assoc, ← k2]; exact j1, fun y hy => ?_⟩
    rcases List.mem_cons.1 hy with rfl | hy
    · exact j2
    · exact k3 y hy
theorem rdL_fwd {α : Type} {f : List UInt8 → Int → α × List UInt8 × Int} {g : α → List UInt8} {P : α → Prop} (hf : Codes f g P) (t : List UInt8) : ∀ xs, (∀ x ∈ xs, P x) → rdL f xs.length (xs.flatMap g ++ t) 0 = (xs, t, 0)
  | [], _ => rfl
  | x :: xs, h => by
    have h1 := hf.fwd x (xs.flatMap g ++ t) (h x (List.mem_cons_self ..))
    have h2 := rdL_fwd hf t xs fun y hy => h y (List.mem_cons_of_mem _ hy)
    rw [List.length_cons, List.flatMap_cons, List.append_assoc]
    unfold rdL
    rw [h1]
    dsimp only
    rw [h2]
theorem rdN_codes {α : Type} {f : List UInt8 → Int → α × List UInt8 × Int} {g : α → List UInt8} {P : α → Prop} (hf : Codes f g P) (m : Int) (hm : m < 9223372036854775808) : Codes (rdN m f) (encL g) (fun xs => (xs.length : Int) ≤ m ∧ ∀ x ∈ xs, P x) := by
  refine ⟨fun l e h => num_stuck m l e (rdL_stuck hf.stuck _ _ _ h), fun l xs t h => ?_, fun xs t h => ?_⟩
  · unfold rdN at h
    have he : (sNum m l 0).2.2 = 0 := rdL_stuck hf.stuck _ _ _ (by rw [h])
    obtain ⟨q, hq⟩ : ∃ q, sNum m l 0 = q := ⟨_, rfl⟩
    obtain ⟨k, l1, e1⟩ := q
    rw [hq] at h he
    dsimp only at h he
    subst he
    obtain ⟨h1, h2, h3, h4⟩ := sNum_inv hq
    obtain ⟨j1, j2, j3⟩ := rdL_inv hf _ _ _ _ h
    refine ⟨?_, by omega, j3⟩
    rw [encL, j1, List.append_assoc, ← j2]
    exact h3
  · unfold rdN encL
    rw [List.append_assoc, sNum_enc xs.length m _ (by omega) h.1]
    dsimp only
    rw [Int.toNat_natCast]
    exact rdL_fwd hf t xs h.2
theorem str_data (k : ByteArray) : str k.data.toList = k := by cases k; simp [str]
theorem data_str (l : List UInt8) : (str l).data.toList = l := by simp [str]
/-- What a row, a branch, rows may have. -/
structure LimR (x : Rw) : Prop where
  key : x.key.data.toList.length ≤ 64
  lo : 0 ≤ x.ver
  hi : x.ver ≤ 2147483648
  row : x.row.length ≤ 524288
structure LimB (x : Bn) : Prop where
  key : x.key.data.toList.length ≤ 64
  len : x.ev.length ≤ 120
  ev : ∀ e ∈ x.ev, e.length ≤ 4096
structure LimD (r : Db) : Prop where
  r0 : r.rows.length ≤ 10000
  r1 : ∀ x ∈ r.rows, LimR x
  b0 : r.brs.length ≤ 10000
  b1 : ∀ x ∈ r.brs, LimB x
theorem rw_codes : Codes rdRw encRw LimR := by
  refine ⟨fun l e h => ?_, fun l x t h => ?_, fun x t h => ?_⟩
  · exact text_stuck 64 l e (num_stuck _ _ _ (text_stuck 524288 _ _ h))
  · unfold rdRw at h
    dsimp only at h
    have hc : (sText 524288 (sNum 2147483648 (sText 64 l 0).2.1 (sText 64 l 0).2.2).2.1 (sNum 2147483648 (sText 64 l 0).2.1 (sText 64 l 0).2.2).2.2).2 = (t, 0) := congrArg Prod.snd h
    have hb : (sNum 2147483648 (sText 64 l 0).2.1 (sText 64 l 0).2.2).2.2 = 0 := text_stuck 524288 _ _ (congrArg Prod.snd hc)
    have ha : (sText 64 l 0).2.2 = 0 := num_stuck _ _ _ hb
    obtain ⟨q, h1⟩ : ∃ q, sText 64 l 0 = q := ⟨_, rfl⟩
    obtain ⟨k, l1, e1⟩ := q
    rw [h1] at h hc hb ha
    dsimp only at h hc hb ha
    subst ha
    obtain ⟨q, h2⟩ : ∃ q, sNum 2147483648 l1 0 = q := ⟨_, rfl⟩
    obtain ⟨v, l2, e2⟩ := q
    rw [h2] at h hc hb
    dsimp only at h hc hb
    subst hb
    obtain ⟨q, h3⟩ : ∃ q, sText 524288 l2 0 = q := ⟨_, rfl⟩
    obtain ⟨s, l3, e3⟩ := q
    rw [h3] at h
    dsimp only at h
    cases h
    obtain ⟨j1, j2⟩ := (text_codes 64 (by decide)).inv _ _ _ h1
    obtain ⟨k1, k2, k3, k4⟩ := sNum_inv h2
    obtain ⟨m1, m2⟩ := (text_codes 524288 (by decide)).inv _ _ _ h3
    refine ⟨?_, ⟨by rw [data_str]; omega, k1, k2, by show s.length ≤ 524288; omega⟩⟩
    simp only [encRw, data_str, List.append_assoc]
    rw [← m1, ← k3]
    exact j1
  · have h1 := (text_codes 64 (by decide)).fwd x.key.data.toList (enc x.ver.toNat ++ encT x.row ++ t) (by have := h.key; omega)
    have h2 := sNum_enc x.ver.toNat 2147483648 (encT x.row ++ t) (by have := h.hi; omega) (by have := h.hi; have := h.lo; omega)
    have h3 := (text_codes 524288 (by decide)).fwd x.row t (by have := h.row; omega)
    have hv : (x.ver.toNat : Int) = x.ver := Int.toNat_of_nonneg h.lo
    unfold rdRw encRw
    rw [List.append_assoc, h1]
    dsimp only
    rw [List.append_assoc, h2]
    dsimp only
    rw [h3]
    dsimp only
    rw [str_data, hv]
theorem bn_codes : Codes rdBn encBn LimB := by
  have hN := rdN_codes (text_codes 4096 (by decide)) 120 (by decide)
  refine ⟨fun l e h => ?_, fun l x t h => ?_, fun x t h => ?_⟩
  · exact text_stuck 64 l e (hN.stuck _ _ h)
  · unfold rdBn at h
    dsimp only at h
    have hb : (rdN 120 (sText 4096) (sText 64 l 0).2.1 (sText 64 l 0).2.2).2 = (t, 0) := congrArg Prod.snd h
    have ha : (sText 64 l 0).2.2 = 0 := hN.stuck _ _ (congrArg Prod.snd hb)
    obtain ⟨q, h1⟩ : ∃ q, sText 64 l 0 = q := ⟨_, rfl⟩
    obtain ⟨k, l1, e1⟩ := q
    rw [h1] at h hb ha
    dsimp only at h hb ha
    subst ha
    obtain ⟨q, h3⟩ : ∃ q, rdN 120 (sText 4096) l1 0 = q := ⟨_, rfl⟩
    obtain ⟨s, l3, e3⟩ := q
    rw [h3] at h
    dsimp only at h
    cases h
    obtain ⟨j1, j2⟩ := (text_codes 64 (by decide)).inv _ _ _ h1
    obtain ⟨m1, m2, m3⟩ := hN.inv _ _ _ h3
    refine ⟨?_, ⟨by rw [data_str]; omega, by show s.length ≤ 120; omega, fun e he => by have := m3 e he; omega⟩⟩
    simp only [encBn, data_str, List.append_assoc]
    rw [← m1]
    exact j1
  · have h1 := (text_codes 64 (by decide)).fwd x.key.data.toList (encL encT x.ev ++ t) (by have := h.key; omega)
    have h3 := hN.fwd x.ev t ⟨by have := h.len; omega, fun e he => by have := h.ev e he; omega⟩
    unfold rdBn encBn
    rw [List.append_assoc, h1]
    dsimp only
    rw [h3]
    dsimp only
    rw [str_data]
theorem rdD_inv {l : List UInt8} {r : Db} (h : rdD l = (r, [], 0)) : l = encD r ∧ LimD r := by
  have hR := rdN_codes rw_codes 10000 (by decide)
  have hB := rdN_codes bn_codes 10000 (by decide)
  unfold rdD at h
  dsimp only at h
  have hb : (rdN 10000 rdBn (rdN 10000 rdRw l 0).2.1 (rdN 10000 rdRw l 0).2.2).2 = ([], 0) := congrArg Prod.snd h
  have ha : (rdN 10000 rdRw l 0).2.2 = 0 := hB.stuck _ _ (congrArg Prod.snd hb)
  obtain ⟨q, h1⟩ : ∃ q, rdN 10000 rdRw l 0 = q := ⟨_, rfl⟩
  obtain ⟨k, l1, e1⟩ := q
  rw [h1] at h hb ha
  dsimp only at h hb ha
  subst ha
  obtain ⟨q, h3⟩ : ∃ q, rdN 10000 rdBn l1 0 = q := ⟨_, rfl⟩
  obtain ⟨s, l3, e3⟩ := q
  rw [h3] at h
  dsimp only at h
  cases h
  obtain ⟨j1, j2, j3⟩ := hR.inv _ _ _ h1
  obtain ⟨m1, m2, m3⟩ := hB.inv _ _ _ h3
  refine ⟨?_, ⟨by show k.length ≤ 10000; omega, j3, by show s.length ≤ 10000; omega, m3⟩⟩
  rw [List.append_nil] at m1
  show l = encL encRw k ++ encL encBn s
  rw [← m1]
  exact j1
theorem rdD_fwd {r : Db} (h : LimD r) : rdD (encD r) = (r, [], 0) := by
  have hR := rdN_codes rw_codes 10000 (by decide)
  have hB := rdN_codes bn_codes 10000 (by decide)
  have h1 := hR.fwd r.rows (encL encBn r.brs) ⟨by have := h.r0; omega, h.r1⟩
  have h2 := hB.fwd r.brs [] ⟨by have := h.b0; omega, h.b1⟩
  rw [List.append_nil] at h2
  unfold rdD encD
  rw [h1]
  dsimp only
  rw [h2]
end Go.Proofs.YtkaaddahegkmgaaGreat
