/- Lists of bytes of the call's own; the contract of readRecords. -/
import Derived.Test.YthakbkkopneilaaDoorU
namespace Go.Proofs.YthakbkkopneilaaDoor
open Go.ChangeShapes Go.WideShapes Go.ChangeAt Go.RowKit
def recF : Nat → List UInt8 → Nat → List (List UInt8)
  | 0, _, _ => []
  | n + 1, l, sz => match takeL l sz 3 with
    | none => []
    | some p => p :: recF n l (sz + (9 + p.length))
/-- The records from a place on. -/
def recsL (l : List UInt8) (sz : Nat) : List (List UInt8) := recF (l.length - sz) l sz
/-- How many bytes records' frames have. -/
def rwide : List (List UInt8) → Nat
  | [] => 0
  | p :: ps => 9 + p.length + rwide ps
theorem rwide_append (a b : List (List UInt8)) : rwide (a ++ b) = rwide a + rwide b := by
  induction a with
  | nil => simp [rwide]
  | cons f a ih => simp [rwide, ih]; omega
theorem rwide_ge : ∀ ps : List (List UInt8), ps.length * 9 ≤ rwide ps
  | [] => Nat.le_refl _
  | p :: ps => by have := rwide_ge ps; simp [rwide]; omega
theorem takeL_ok {l : List UInt8} {sz : Nat} {k : UInt8} {p : List UInt8} (h : takeL l sz k = some p) : sz + (9 + p.length) ≤ l.length ∧ p.length ≤ 1048576 := by
  unfold takeL at h
  split at h
  · rename_i k' p' hnx
    split at h
    · injection h with h
      subst h
      have := nextL_ok hnx
      simp at this
      omega
    · cases h
  · cases h
theorem recF_eq : ∀ (n m : Nat) (l : List UInt8) (sz : Nat), l.length - sz ≤ n → l.length - sz ≤ m → recF n l sz = recF m l sz := by
  intro n
  induction n with
  | zero =>
    intro m l sz h1 _
    cases m with
    | zero => rfl
    | succ m =>
      simp only [recF]
      cases h : takeL l sz 3 with
      | none => rfl
      | some p => have := (takeL_ok h).1; omega
  | succ n ih =>
    intro m l sz h1 h2
    cases m with
    | zero =>
      simp only [recF]
      cases h : takeL l sz 3 with
      | none => rfl
      | some p => have := (takeL_ok h).1; omega
    | succ m =>
      simp only [recF]
      cases h : takeL l sz 3 with
      | none => rfl
      | some p =>
        have := (takeL_ok h).1
        simp only
        rw [ih m l (sz + (9 + p.length)) (by omega) (by omega)]
theorem recsL_none {l : List UInt8} {sz : Nat} (h : takeL l sz 3 = none) : recsL l sz = [] := by
  unfold recsL
  cases l.length - sz with
  | zero => rfl
  | succ n => simp only [recF, h]
theorem recsL_some {l : List UInt8} {sz : Nat} {p : List UInt8} (h : takeL l sz 3 = some p) : recsL l sz = p :: recsL l (sz + (9 + p.length)) := by
  have hk := (takeL_ok h).1
  unfold recsL
  obtain ⟨n, hn⟩ : ∃ n, l.length - sz = n + 1 := ⟨l.length - sz - 1, by omega⟩
  rw [hn]
  simp only [recF, h]
  rw [recF_eq n _ l (sz + (9 + p.length)) (by omega) (Nat.le_refl _)]
theorem info22 : (Tryd.prog.info? 22).map (fun i => (i.zero, i.size, i.bytes)) = some (some (.slice none 0 0), 1, 24) := by kernel_rfl
/-- v is a list of bytes of the call's own. -/
def Ls (B : Nat) (w : World) (v : Value) (ls : List (List UInt8)) : Prop :=
  ∃ xs : List Value, xs.length = ls.length ∧ w.ownsRow B 22 1 v ls.length xs ∧ ∀ (i : Nat) x l, xs[i]? = some x → ls[i]? = some l → Own B w x l
theorem Ls.nil (B : Nat) (w : World) : Ls B w (.slice none 0 0) [] := ⟨[], rfl, World.ownsRow_nil _ _ _ _, fun i x f h => by simp at h⟩
theorem Ls.kt {S : TypeId → Prop} {B : Nat} {w w' : World} {v : Value} {ls : List (List UInt8)} (h : Ls B w v ls) (hk : KT S w w') (h1 : S 22) (h2 : S 5) : Ls B w' v ls := by
  obtain ⟨xs, hl, ho, hp⟩ := h
  exact ⟨xs, hl, row_kt ho hk h1, fun i x f q1 q2 => row_kt (hp i x f q1 q2) hk h2⟩
theorem Ls.shape {B : Nat} {w : World} {v : Value} {ls : List (List UInt8)} (h : Ls B w v ls) : ∃ a n c, v = .slice a n c := by
  obtain ⟨_, _, ⟨_, ⟨rfl, _⟩ | ⟨g, cap, cur, rfl, _⟩⟩, _⟩ := h
  · exact ⟨_, _, _, rfl⟩
  · exact ⟨_, _, _, rfl⟩
/-- append of one text. -/
theorem lapp_run {B : Nat} {w : World} {v x : Value} {ls : List (List UInt8)} {p : List UInt8} (ho : Ls B w v ls) (hx : Own B w x p) (hB : B ≤ w.heap.size) (hn : ls.length ≤ 1000000000) :
    ∃ v' w', (∀ ty, (Builtin.append_ #[28, 28] ty #[v, .slice (some ⟨w.heap.size, 0, none⟩) 1 1]).run Tryd.prog (w.alloc (.cells #[x] 22)) = .ok v' w') ∧ Ls B w' v' (ls ++ [p]) ∧ Below B w w' ∧ KT (fun t => t ≠ 22) w w' ∧ w.heap.size ≤ w'.heap.size := by
  obtain ⟨xs, hl, hrow, hp⟩ := ho
  obtain ⟨i0, hi, hz0, hz1, hz2⟩ := info_parts info22
  have hW := below_alloc w (.cells #[x] 22)
  have hrow' := row_below hrow hW
  have x1 : x.oneCell' = true := by obtain ⟨a, n, c, rfl⟩ := hx.hb.shape; rfl
  have key : ∀ ty, ∃ v' w', (Builtin.append_ #[28, 28] ty #[v, .slice (some ⟨w.heap.size, 0, none⟩) 1 1]).run Tryd.prog (w.alloc (.cells #[x] 22)) = .ok v' w' ∧ w'.ownsRow B 22 1 v' (ls.length + 1) (xs ++ [x]) ∧ (w.alloc (.cells #[x] 22)).grownBy w' v.ownBlock ∧ _ := fun ty =>
    run_append_own (P := Tryd.prog) (w := w.alloc (.cells #[x] 22)) B 28 ty 22 i0 _ 1 24 Tryd.underlying28 hi hz0 hz1 hz2 rfl (by decide) v ls.length xs hrow' ⟨w.heap.size, 0, none⟩ 1 1 [x] rfl
      (fun j u hj => by
        rw [add_plain, Nat.zero_add]
        match j, hj with
        | 0, hj => cases hj; simp
        | j + 1, hj => simp at hj)
      (fun u hu => by simp only [List.mem_cons, List.not_mem_nil, or_false] at hu; subst hu; exact x1) (by unfold maxLen; omega) (by omega) (Nat.le_trans hB hW.size)
  obtain ⟨v', w', hr, hown, hgrow, _⟩ := key 28
  have K2 : KT (fun t => t ≠ 22) w w' := (KT.below hW).trans (kt_grown hrow' hgrow)
  refine ⟨v', w', fun ty => hr, ⟨xs ++ [x], by simp [hl], by rw [List.length_append]; exact hown, ?_⟩, (hW.mono hB).grown hgrow (Nat.le_trans hB hW.size) (fun k hk => (World.ownsRow.lt hrow k hk).1), K2, Nat.le_trans hW.size hgrow.size⟩
  intro i y f hy hf
  by_cases hi : i < ls.length
  · rw [List.getElem?_append_left hi] at hf
    rw [List.getElem?_append_left (by omega)] at hy
    exact (hp i y f hy hf).kt K2 (by decide)
  · have hi2 : i = ls.length := by
      have := (List.getElem?_eq_some_iff.1 hf).1
      simp at this
      omega
    subst hi2
    rw [List.getElem?_append_right (by omega)] at hf
    rw [List.getElem?_append_right (by omega), hl] at hy
    simp at hf hy
    subst hf hy
    exact hx.kt K2 (by decide)
def szOf (w : World) (g : Nat) : Nat := match w.cell? ⟨g, 5, none⟩ with
  | some (.int _ n) => n.toNat
  | _ => 0
/-- What a call of readRecords leaves. -/
def RR (w0 w : World) (g : Nat) (c0 c1 c2 c3 c6 : Value) (sz : Nat) (rs : List (List UInt8)) (e : Ending) (w' : World) : Prop :=
  Below w0.heap.size w0 w' ∧ KX w.heap.size g w w' ∧ w.heap.size ≤ w'.heap.size ∧ e = .returned (.tuple #[]) ∧ ∃ R, SegAt w' g c0 c1 c2 c3 R (.int .i64 ((sz + rwide rs : Nat) : Int)) c6 ∧ Ls w.heap.size w' R rs
set_option maxHeartbeats 1000000 in
set_option maxRecDepth 100000 in
theorem readRecords_calls (w0 w : World) (g : Nat) (c0 c1 c2 c3 c6 : Value) (sz : Nat) (v : Value) (l : List UInt8) (hS : SegAt w g c0 c1 c2 c3 (.slice none 0 0) (.int .i64 (sz : Int)) c6) (hv : Hb w0 v l) (ht : Tb w0) (hb : Below w0.heap.size w0 w) (hg : w0.heap.size ≤ g) (hsz : sz ≤ l.length) (hl : l.length ≤ 1000000000) :
    Calls Tryd.prog 33 #[.pointer (some ⟨g, 0, none⟩), v] w (RR w0 w g c0 c1 c2 c3 c6 sz (recsL l sz)) := by
  have HS : Hid (SegAt w g c0 c1 c2 c3 (.slice none 0 0) (.int .i64 (sz : Int)) c6) := hS
  have HG : Hid (w0.heap.size ≤ g) := hg
  have HB : Hid (Below w0.heap.size w0 w) := hb
  have HV : Hid (Hb w0 v l) := hv
  have HT : Hid (Tb w0) := ht
  have HL : Hid (sz ≤ l.length ∧ l.length ≤ 1000000000) := ⟨hsz, hl⟩
  have HGW : Hid (g < w.heap.size) := World.block_lt_of_cell? w ⟨g, 0, none⟩ (by rw [hS.cell 0]; rfl)
  obtain ⟨va, vn, vc, rfl⟩ := hv.shape
  clear hS hv ht hb hg hl hsz
  go_enter Tryd.func33, Tryd.ntmps33
  go_wp2_with fail
  go_loopw [] (fun wr => ∃ (acc : List (List UInt8)) (R : Value), Hid (SegAt wr g c0 c1 c2 c3 R (.int .i64 ((sz + rwide acc : Nat) : Int)) c6) ∧ Hid (Ls w.heap.size wr R acc) ∧ Hid (sz + rwide acc ≤ l.length) ∧ Hid (recsL l sz = acc ++ recsL l (sz + rwide acc)) ∧ Hid (Below w0.heap.size w0 wr) ∧ Hid (KX w.heap.size g w wr ∧ w.heap.size ≤ wr.heap.size)) (fun wr => l.length - szOf wr g)
  case atStart => exact ⟨[], _, HS, Ls.nil _ _, HL.out.1, rfl, HB, ⟨fun _ _ _ => rfl, Nat.le_refl _⟩⟩
  case round =>
    obtain ⟨acc, R, HSr, HLs, HZ, HE, HBr, HK⟩ := hrel
    have TC : Hid (Calls Tryd.prog 32 #[.pointer (some ⟨g, 0, none⟩), .slice va vn vc, .int .i64 3] wr (TK w0 wr g c0 c1 c2 c3 R c6 (sz + rwide acc) (takeL l (sz + rwide acc) 3))) := take_calls w0 wr g c0 c1 c2 c3 R c6 (sz + rwide acc) _ l 3 HSr.out HV.out HT.out HBr.out HG.out HZ.out HL.out.2
    obtain ⟨Ra, Rn, Rc, rfl⟩ := HLs.out.shape
    go_wp2_with fail
    refine TC.out.mono ?_
    intro e w1 hT
    obtain ⟨b1, k1, z1, hT⟩ := hT
    have BB1 : Hid (Below w0.heap.size w0 w1) := b1
    have KK1 : Hid (KX w.heap.size g w w1 ∧ w.heap.size ≤ w1.heap.size) := ⟨HK.out.1.trans (fun j hj hgj => k1 j (Nat.lt_of_lt_of_le hj HK.out.2) hgj), Nat.le_trans HK.out.2 z1⟩
    have L1 : Hid (Ls w.heap.size w1 (.slice Ra Rn Rc) acc) := HLs.out.kt (k1.kt HSr.out) (by decide) (by decide)
    cases hn : takeL l (sz + rwide acc) 3 with
    | none =>
      rw [hn] at hT
      obtain ⟨rfl, s1⟩ := hT
      have HE2 : Hid (recsL l sz = acc) := by show _ = _; rw [HE.out, recsL_none hn, List.append_nil]
      have S1 : Hid (SegAt w1 g c0 c1 c2 c3 (.slice Ra Rn Rc) (.int .i64 ((sz + rwide acc : Nat) : Int)) c6) := s1
      clear s1 hn b1 k1 z1
      go_wp2_with fail
      refine bodyPost_ret (results_none rfl _ _ _) rfl ?_
      rw [HE2.out]
      exact ⟨BB1.out, KK1.out.1, KK1.out.2, rfl, _, S1.out, L1.out⟩
    | some p =>
      rw [hn] at hT
      obtain ⟨x, rfl, ox, s1⟩ := hT
      have hok := takeL_ok hn
      have HE2 : Hid (recsL l sz = (acc ++ [p]) ++ recsL l (sz + rwide (acc ++ [p]))) := by
        show _ = _
        rw [HE.out, recsL_some hn, rwide_append, List.append_assoc]
        simp [rwide, Nat.add_assoc]
      have HZ2 : Hid (sz + rwide (acc ++ [p]) ≤ l.length) := by show _ ≤ _; rw [rwide_append]; simp [rwide]; omega
      have HM : Hid (l.length - (sz + rwide (acc ++ [p])) < l.length - (sz + rwide acc)) := by show _ < _; have := HZ2.out; rw [rwide_append] at this ⊢; simp [rwide] at this ⊢; omega
      have ox1 : Own w.heap.size w1 x p := ox.lower HK.out.2
      have hacc : acc.length ≤ 1000000000 := by have a := rwide_ge acc; have b := HZ.out; have c := HL.out.2; omega
      obtain ⟨R2, w2, hr2, hL2, hb2, hk2, hz2⟩ := lapp_run L1.out ox1 KK1.out.2 hacc
      obtain ⟨Ra2, Rn2, Rc2, rfl⟩ := hL2.shape
      obtain ⟨xa, xn, xc, rfl⟩ := ox.hb.shape
      have s2 : SegAt w2 g c0 c1 c2 c3 (.slice Ra Rn Rc) (.int .i64 ((sz + rwide acc + (9 + p.length) : Nat) : Int)) c6 := s1.kt hk2 (by decide)
      have q4 : w1.cell? ⟨g, 4, none⟩ = some (.slice Ra Rn Rc) := by rw [s1.cell 4]; rfl
      have q4' : w2.cell? ⟨g, 4, none⟩ = some (.slice Ra Rn Rc) := by rw [s2.cell 4]; rfl
      have f4 := s2.free 4
      have s3 : SegAt (w2.setCell ⟨g, 4, none⟩ (.slice Ra2 Rn2 Rc2)) g c0 c1 c2 c3 (.slice Ra2 Rn2 Rc2) (.int .i64 ((sz + rwide acc + (9 + p.length) : Nat) : Int)) c6 := s2.set 4 _
      have e3 : sz + rwide acc + (9 + p.length) = sz + rwide (acc ++ [p]) := by rw [rwide_append]; simp [rwide]; omega
      rw [e3] at s3
      have S3 : Hid (SegAt (w2.setCell ⟨g, 4, none⟩ (.slice Ra2 Rn2 Rc2)) g c0 c1 c2 c3 (.slice Ra2 Rn2 Rc2) (.int .i64 ((sz + rwide (acc ++ [p]) : Nat) : Int)) c6) := s3
      have L3 : Hid (Ls w.heap.size (w2.setCell ⟨g, 4, none⟩ (.slice Ra2 Rn2 Rc2)) (.slice Ra2 Rn2 Rc2) (acc ++ [p])) := hL2.kt (KT.set s2 4 _) (by decide) (by decide)
      have BB3 : Hid (Below w0.heap.size w0 (w2.setCell ⟨g, 4, none⟩ (.slice Ra2 Rn2 Rc2))) := (BB1.out.trans (hb2.mono HB.out.size)).setCell (p := ⟨g, _, none⟩) HG.out _
      have KK3 : Hid (KX w.heap.size g w (w2.setCell ⟨g, 4, none⟩ (.slice Ra2 Rn2 Rc2)) ∧ w.heap.size ≤ (w2.setCell ⟨g, 4, none⟩ (.slice Ra2 Rn2 Rc2)).heap.size) := ⟨(KK1.out.1.trans (fun j hj _ => hb2.block j hj)).trans (KX.set _ _ _), by have := KK1.out.2; simp; omega⟩
      have HMM : Hid (l.length - szOf (w2.setCell ⟨g, 4, none⟩ (.slice Ra2 Rn2 Rc2)) g < l.length - szOf wr g) := by
        show _ < _
        have a1 : szOf wr g = sz + rwide acc := by unfold szOf; rw [HSr.out.cell 5]; rfl
        have a2 : szOf (w2.setCell ⟨g, 4, none⟩ (.slice Ra2 Rn2 Rc2)) g = sz + rwide (acc ++ [p]) := by unfold szOf; rw [s3.cell 5]; rfl
        rw [a1, a2]
        exact HM.out
      clear s1 s2 s3 hn b1 k1 z1 hok ox ox1 hacc hL2 hb2 hk2 hz2 e3
      go_wp2_with (at_builtin; refine Lib.wpList_append_run _ rfl _ _ 28 28 rfl _ _ rfl rfl _ _ (hr2 _) ?_)
      exact ⟨⟨acc ++ [p], _, S3, L3, HZ2, HE2, BB3, KK3⟩, HMM.out⟩
end Go.Proofs.YthakbkkopneilaaDoor
