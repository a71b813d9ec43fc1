/- The contracts of the closures of Encode. -/
import Derived.Test.YtomkoajhjijplaaBC
namespace Go.Proofs.Ytomkoajhjijplaa
open Go.ChangeShapes Go.WideShapes Go.ChangeAt Go.RowKit
/-- Encode's two variables: out, and put. -/
structure JE (lo go gp : Nat) (out : List UInt8) (W : World) : Prop where
  out : ∃ p n c, Bk W go #[.slice p n c] 22 ∧ Own lo W (.slice p n c) out
  put : Bk W gp #[.func (.func 18) #[] #[.pointer (some ⟨go, 0, none⟩)]] 43
  lor : lo ≤ go
  low : lo ≤ W.heap.size
def EnP (lo go gp : Nat) (out : List UInt8) (W : World) (e : Ending) (W' : World) : Prop := e = .returned (.tuple #[]) ∧ JE lo go gp out W' ∧ Fr lo W W'
theorem own_kept {lo : Nat} {w w' : World} {u : Value} {l : List UInt8} (h : Own lo w u l) (hk : ∀ B, u.ownBlock = some B → w'.heap[B]? = w.heap[B]?) : Own lo w' u l := by
  have h0 : w.ownsRow lo 5 1 u l.length (bval l) := h
  show w'.ownsRow lo 5 1 u l.length (bval l)
  obtain ⟨h1, h2 | ⟨g, cap, cur, rfl, hB, hg, r⟩⟩ := h0
  · exact ⟨h1, .inl h2⟩
  · exact ⟨h1, .inr ⟨g, cap, cur, rfl, hB, by rw [hk g rfl]; exact hg, r⟩⟩
/-- The own row is a block of bytes. -/
theorem own_type {lo : Nat} {w : World} {u : Value} {l : List UInt8} {B : Nat} (h : Own lo w u l) (hB : u.ownBlock = some B) : ∃ cur, w.heap[B]? = some (.cells cur 5 (0, 0)) := by
  have h0 : w.ownsRow lo 5 1 u l.length (bval l) := h
  obtain ⟨_, ⟨rfl, _⟩ | ⟨g, cap, cur, rfl, _, hg, _⟩⟩ := h0
  · cases hB
  · cases hB
    exact ⟨cur, hg⟩
theorem own_slice {lo : Nat} {w : World} {u : Value} {l : List UInt8} (h : Own lo w u l) : ∃ p n c, u = .slice p n c := by
  have h0 : w.ownsRow lo 5 1 u l.length (bval l) := h
  obtain ⟨_, ⟨rfl, _⟩ | ⟨g, cap, cur, rfl, _, hg, _⟩⟩ := h0
  · exact ⟨_, _, _, rfl⟩
  · exact ⟨_, _, _, rfl⟩
theorem JE.below {lo go gp : Nat} {out : List UInt8} {W W' : World} (h : JE lo go gp out W) (hb : Below W.heap.size W W') : JE lo go gp out W' := by
  obtain ⟨⟨p, n, c, h1, h2⟩, h3, h4, h5⟩ := h
  refine ⟨⟨p, n, c, h1.below hb, own_kept h2 (fun B hB => hb.block B ?_)⟩, h3.below hb, h4, Nat.le_trans h5 hb.size⟩
  have h0 : W.ownsRow lo 5 1 (.slice p n c) out.length (bval out) := h2
  exact (World.ownsRow.lt h0 B hB).2
/-- What put leaves. -/
structure PutR (lo go gp : Nat) (out l : List UInt8) (a : Addr) (c : Nat) (W w1 : World) (u u' : Value) : Prop where
  old : W.cell? ⟨go, 0, none⟩ = some u
  run : ∀ ty, (Builtin.append_ #[22, 22] ty #[u, .slice (some a) l.length c]).run Try.prog W = .ok u' w1
  cel : w1.cell? ⟨go, 0, none⟩ = some u
  frz : w1.frozen? ⟨go, 0, none⟩ = false
  st : JE lo go gp (out ++ l) (w1.setCell ⟨go, 0, none⟩ u')
  fr : Fr lo W (w1.setCell ⟨go, 0, none⟩ u')
theorem put_run {lo go gp : Nat} {out l : List UInt8} {a : Addr} {c : Nat} {W : World} (h : JE lo go gp out W) (hf : Lib.HoldsBytes W (.slice (some a) l.length c) l) (hb : out.length + l.length ≤ 1099511627776) : ∃ p n d p' n' d' w1, PutR lo go gp out l a c W w1 (.slice p n d) (.slice p' n' d') := by
  obtain ⟨⟨p, n, d, h1, h2⟩, h3, h4, h5⟩ := h
  obtain ⟨i0, hi, hz0, hz1, hz2⟩ := info_parts Try.info5
  have h0 : W.ownsRow lo 5 1 (.slice p n d) out.length (bval out) := h2
  obtain ⟨pf, cf, hfe, _, hcell⟩ := hf
  cases hfe
  have key : ∀ ty, ∃ v' w', (Builtin.append_ #[22, 22] ty #[.slice p n d, .slice (some a) l.length c]).run Try.prog W = .ok v' w' ∧ w'.ownsRow lo 5 1 v' (out.length + l.length) (bval out ++ bval l) ∧ W.grownBy w' (Value.slice p n d).ownBlock ∧ _ := fun ty =>
    run_append_own (P := Try.prog) (w := W) lo 22 ty 5 i0 (.int .u8 0) 1 1 Try.underlying22 hi hz0 hz1 hz2 rfl (by decide) (.slice p n d) out.length (bval out) h0 a l.length c (bval l) (by simp [bval]) (by
      intro j u hj
      unfold bval at hj
      rw [List.getElem?_map] at hj
      obtain ⟨x, hx, rfl⟩ := Option.map_eq_some_iff.1 hj
      exact hcell a rfl j x hx) (by intro u hu; obtain ⟨x, _, rfl⟩ := List.mem_map.1 hu; rfl) (by unfold maxLen; omega) (by omega) h5
  obtain ⟨u', w1, hr, hown, hgrow, _⟩ := key 22
  have hown2 : Own lo w1 u' (out ++ l) := by
    show w1.ownsRow lo 5 1 u' _ _
    have e1 : (out ++ l).length = out.length + l.length := by simp
    have e2 : bval (out ++ l) = bval out ++ bval l := by simp [bval]
    rw [e1, e2]
    exact hown
  obtain ⟨p', n', d', rfl⟩ := own_slice hown2
  have hgo : (Value.slice p n d).ownBlock ≠ some go := fun e => by
    obtain ⟨cur, hc⟩ := own_type h2 e
    unfold Bk at h1
    rw [h1] at hc
    injection hc with hc
    injection hc with _ hc _
    cases hc
  have b1 : Bk w1 go #[.slice p n d] 22 := (hgrow.block go h1.lt (fun e => hgo e.symm)).trans h1
  have hne : (Value.slice p' n' d').ownBlock ≠ some go := fun e => by
    obtain ⟨cur, hc⟩ := own_type hown2 e
    unfold Bk at b1
    rw [b1] at hc
    injection hc with hc
    injection hc with _ hc _
    cases hc
  have k1 : KT (fun t => t ≠ 5) W w1 := fun k cur t fz hk ht => by
    have hlt : k < W.heap.size := by
      rcases Nat.lt_or_ge k W.heap.size with h | h
      · exact h
      · rw [Array.getElem?_eq_none h] at hk; cases hk
    refine (hgrow.block k hlt (fun e => ?_)).trans hk
    obtain ⟨cur', hc⟩ := own_type h2 e.symm
    rw [hk] at hc
    injection hc with hc
    injection hc with _ hc _
    exact ht hc
  have k2 : KT (fun t => t ≠ 22) w1 (w1.setCell ⟨go, 0, none⟩ (.slice p' n' d')) := KT.set b1 0 _
  have kk : KT (fun t => t ≠ 5 ∧ t ≠ 22) W (w1.setCell ⟨go, 0, none⟩ (.slice p' n' d')) := (k1.mono (fun t ht => ht.1)).trans (k2.mono (fun t ht => ht.2))
  have hB1 : Below lo W w1 := (Below.refl _ W).grown hgrow h5 (fun k hk => (World.ownsRow.lt h0 k hk).1)
  have hlow : lo ≤ w1.heap.size := Nat.le_trans h5 hB1.size
  have hB2 : Below lo w1 (w1.setCell ⟨go, 0, none⟩ (.slice p' n' d')) := (KB.setCell go w1 0 _).below h4 hlow
  refine ⟨p, n, d, p', n', d', w1, h1.cell 0, fun ty => hr, b1.cell 0, b1.frozen 0, ⟨⟨p', n', d', b1.set 0 (.slice p' n' d'), own_kept hown2 (fun B hB => Below.heap_setCell _ _ _ _ (fun e => hne (by rw [hB, e])))⟩, h3.kt kk (by decide), h4, by simpa [World.setCell] using hlow⟩, hB1.trans hB2, kk.mono (fun t ht => ht.2)⟩
set_option maxHeartbeats 1000000 in
theorem put_calls (lo go gp : Nat) (out l : List UInt8) (a : Addr) (c : Nat) (W : World) (h : JE lo go gp out W) (hf : Lib.HoldsBytes W (.slice (some a) l.length c) l) (hb : out.length + l.length ≤ 1099511627776) :
    Calls Try.prog 18 #[.slice (some a) l.length c, .pointer (some ⟨go, 0, none⟩)] W (EnP lo go gp (out ++ l) W) := by
  obtain ⟨p, n, d, p', n', d', w1, R⟩ := put_run h hf hb
  have HR : Hid (PutR lo go gp out l a c W w1 (.slice p n d) (.slice p' n' d')) := R
  have c0 := R.old
  have c1 := R.cel
  have f1 := R.frz
  have hr := R.run
  clear R h hf hb
  go_enter Try.func18, Try.ntmps18
  go_wp2_with (at_builtin; refine Lib.wpList_append_run _ rfl _ _ 22 22 rfl _ _ rfl rfl _ _ (hr _) ?_)
  first | go_end0 | refine bodyPost_ret (results_none rfl _ _ _) rfl ?_
  exact ⟨rfl, HR.out.st, HR.out.fr⟩
set_option maxHeartbeats 1000000 in
theorem enum_calls (lo go gp : Nat) (out : List UInt8) (W : World) (a : Addr) (n most : Int) (h : JE lo go gp out W) (hp : Pers lo W a (.int .i64 n)) (ho : out.length ≤ 549755813888) (hn : n < 9223372036854775808) :
    Calls Try.prog 19 #[.pointer (some a), .int .i64 most, .pointer (some ⟨gp, 0, none⟩)] W (EnP lo go gp (out ++ (enc n.toNat)) W) := by
  have c0 := h.put.cell 0
  simp only [List.getElem?_toArray, List.getElem?_cons_zero] at c0
  have a0 := hp.now
  have HP : Hid (Pers lo W a (.int .i64 n)) := hp
  obtain ⟨BY, hBY⟩ : ∃ BY, BY = enc n.toNat := ⟨_, rfl⟩
  have HIN : Hid (∀ W', Calls Try.prog 20 #[.slice none 0 0, .int .i64 n] W' (NB W' BY)) := fun W' => by rw [hBY]; exact (by have := num_calls (.slice none 0 0) [] n hn W' (holds_nil W') (by simp); rwa [List.nil_append] at this)
  have HLN : Hid (out.length + BY.length ≤ 1099511627776) := by show _ ≤ _; rw [hBY]; have := enc_length n.toNat (by omega); omega
  have HJ0 : Hid (JE lo go gp out W.drew) := h.below (Below.refl _ W).drew
  have HF : Hid (Fr lo W W.drew) := Fr.below (Below.refl _ W).drew h.low
  rw [← hBY]
  clear h hBY hp hn ho
  go_enter Try.func19, Try.ntmps19
  go_wp2_with fail
  go_region_held3 (fun w' => w'.cell? ⟨gp, 0, none⟩ = some (.func (.func 18) #[] #[.pointer (some ⟨go, 0, none⟩)]) ∧ w'.cell? a = some (.int .i64 n)) (go_keep) (first
    | (go_at_call 20; refine (HIN.out _).mono ?_; rintro e w1 ⟨g, hg, rfl, hh, hb⟩; have HJ1 : Hid (JE lo go gp out w1) := HJ0.out.below hb; have HH1 : Hid (Lib.HoldsBytes w1 _ BY) := hh; have HF1 : Hid (Fr lo W w1) := HF.out.trans (Fr.below hb HJ0.out.low); have c1 := HJ1.out.put.cell 0; simp only [List.getElem?_toArray, List.getElem?_cons_zero] at c1; have a1 := HP.out w1 HF1.out; clear hg hh hb)
    | (go_at_call 18; refine (put_calls lo go gp out BY _ _ _ HJ1.out HH1.out HLN.out).mono ?_; rintro e w2 ⟨rfl, hj, hf⟩; have HJ2 : Hid (JE lo go gp _ w2) := hj; have HF2 : Hid (Fr lo W w2) := HF1.out.trans hf; have c2 := hj.put.cell 0; simp only [List.getElem?_toArray, List.getElem?_cons_zero] at c2; have a2 := HP.out w2 HF2.out; clear hj hf)
    )
  go_wp2_with fail
  first | go_end0 | refine bodyPost_ret (results_none rfl _ _ _) rfl ?_
  exact ⟨rfl, HJ2.out, HF2.out⟩
set_option maxHeartbeats 1000000 in
theorem etext_calls (lo go gp : Nat) (out : List UInt8) (W : World) (a : Addr) (x : ByteArray) (least most : Int) (h : JE lo go gp out W) (hp : Pers lo W a (.string x)) (ho : out.length ≤ 549755813888) (hn : x.size ≤ 1073741824) :
    Calls Try.prog 21 #[.pointer (some a), .int .i64 least, .int .i64 most, .pointer (some ⟨gp, 0, none⟩)] W (EnP lo go gp (out ++ (enc x.size ++ x.data.toList)) W) := by
  have c0 := h.put.cell 0
  simp only [List.getElem?_toArray, List.getElem?_cons_zero] at c0
  have a0 := hp.now
  have HP : Hid (Pers lo W a (.string x)) := hp
  obtain ⟨BY, hBY⟩ : ∃ BY, BY = enc x.size ++ x.data.toList := ⟨_, rfl⟩
  have HIN : Hid (∀ W', Calls Try.prog 22 #[.slice none 0 0, .string x] W' (NB W' BY)) := fun W' => by rw [hBY]; exact (by have := text_calls (.slice none 0 0) [] x W' (holds_nil W') (by omega) (by simp; omega); rwa [List.nil_append] at this)
  have HLN : Hid (out.length + BY.length ≤ 1099511627776) := by show _ ≤ _; rw [hBY]; have := enc_length x.size (by omega); rw [List.length_append, str_len]; omega
  have HJ0 : Hid (JE lo go gp out W.drew) := h.below (Below.refl _ W).drew
  have HF : Hid (Fr lo W W.drew) := Fr.below (Below.refl _ W).drew h.low
  rw [← hBY]
  clear h hBY hp hn ho
  go_enter Try.func21, Try.ntmps21
  go_wp2_with fail
  go_region_held3 (fun w' => w'.cell? ⟨gp, 0, none⟩ = some (.func (.func 18) #[] #[.pointer (some ⟨go, 0, none⟩)]) ∧ w'.cell? a = some (.string x)) (go_keep) (first
    | (go_at_call 22; refine (HIN.out _).mono ?_; rintro e w1 ⟨g, hg, rfl, hh, hb⟩; have HJ1 : Hid (JE lo go gp out w1) := HJ0.out.below hb; have HH1 : Hid (Lib.HoldsBytes w1 _ BY) := hh; have HF1 : Hid (Fr lo W w1) := HF.out.trans (Fr.below hb HJ0.out.low); have c1 := HJ1.out.put.cell 0; simp only [List.getElem?_toArray, List.getElem?_cons_zero] at c1; have a1 := HP.out w1 HF1.out; clear hg hh hb)
    | (go_at_call 18; refine (put_calls lo go gp out BY _ _ _ HJ1.out HH1.out HLN.out).mono ?_; rintro e w2 ⟨rfl, hj, hf⟩; have HJ2 : Hid (JE lo go gp _ w2) := hj; have HF2 : Hid (Fr lo W w2) := HF1.out.trans hf; have c2 := hj.put.cell 0; simp only [List.getElem?_toArray, List.getElem?_cons_zero] at c2; have a2 := HP.out w2 HF2.out; clear hj hf)
    )
  go_wp2_with fail
  first | go_end0 | refine bodyPost_ret (results_none rfl _ _ _) rfl ?_
  exact ⟨rfl, HJ2.out, HF2.out⟩
set_option maxHeartbeats 1000000 in
theorem ebytes_calls (lo go gp : Nat) (out : List UInt8) (W : World) (a : Addr) (p : Option Addr) (n c : Nat) (l : List UInt8) (least most : Int) (h : JE lo go gp out W) (hp : Pers lo W a (.slice p n c)) (hh : Lib.HoldsBytes W (.slice p n c) l) (ho : out.length ≤ 549755813888) (hn : l.length ≤ 1073741824) :
    Calls Try.prog 23 #[.pointer (some a), .int .i64 least, .int .i64 most, .pointer (some ⟨gp, 0, none⟩)] W (EnP lo go gp (out ++ (enc l.length ++ l)) W) := by
  have c0 := h.put.cell 0
  simp only [List.getElem?_toArray, List.getElem?_cons_zero] at c0
  have a0 := hp.now
  have HP : Hid (Pers lo W a (.slice p n c)) := hp
  have hsz : (str l).size = l.length := by simp [str, ByteArray.size]
  have hcv : (convert 22 9 (.slice p n c)).run Try.prog W.drew = .ok (.string (str l)) W.drew := by
    obtain ⟨p', c', he, q⟩ := hh
    cases he
    have := conv_string W.drew p c l (holds_below (w := W) ⟨p, c, rfl, q⟩ (Below.refl _ W).drew)
    rwa [str_nums] at this
  obtain ⟨BY, hBY⟩ : ∃ BY, BY = enc l.length ++ l := ⟨_, rfl⟩
  have HIN : Hid (∀ W', Calls Try.prog 22 #[.slice none 0 0, .string (str l)] W' (NB W' BY)) := fun W' => by rw [hBY]; exact (by have := text_calls (.slice none 0 0) [] (str l) W' (holds_nil W') (by rw [hsz]; omega) (by rw [hsz]; simp; omega); rwa [List.nil_append, hsz] at this)
  have HLN : Hid (out.length + BY.length ≤ 1099511627776) := by show _ ≤ _; rw [hBY]; have := enc_length l.length (by omega); rw [List.length_append]; omega
  have HJ0 : Hid (JE lo go gp out W.drew) := h.below (Below.refl _ W).drew
  have HF : Hid (Fr lo W W.drew) := Fr.below (Below.refl _ W).drew h.low
  rw [← hBY]
  clear h hBY hp hn ho hh hsz
  go_enter Try.func23, Try.ntmps23
  go_wp2_with fail
  first | (go_region_held (fun w' => w'.cell? ⟨gp, 0, none⟩ = some (.func (.func 18) #[] #[.pointer (some ⟨go, 0, none⟩)]) ∧ w'.cell? a = some (.slice p n c)) (go_keep) (first | (go_at_call 22; refine (HIN.out _).mono ?_; rintro e w1 ⟨g, hg, rfl, hh, hb⟩; have HJ1 : Hid (JE lo go gp out w1) := HJ0.out.below hb; have HH1 : Hid (Lib.HoldsBytes w1 _ BY) := hh; have HF1 : Hid (Fr lo W w1) := HF.out.trans (Fr.below hb HJ0.out.low); have c1 := HJ1.out.put.cell 0; simp only [List.getElem?_toArray, List.getElem?_cons_zero] at c1; have a1 := HP.out w1 HF1.out; clear hg hh hb) | (go_at_call 18; refine (put_calls lo go gp out BY _ _ _ HJ1.out HH1.out HLN.out).mono ?_; rintro e w2 ⟨rfl, hj, hf⟩; have HJ2 : Hid (JE lo go gp _ w2) := hj; have HF2 : Hid (Fr lo W w2) := HF1.out.trans hf; have c2 := hj.put.cell 0; simp only [List.getElem?_toArray, List.getElem?_cons_zero] at c2; have a2 := HP.out w2 HF2.out; clear hj hf))) | fail
  go_wp2_with fail
  first | go_end0 | refine bodyPost_ret (results_none rfl _ _ _) rfl ?_
  exact ⟨rfl, HJ2.out, HF2.out⟩
set_option maxHeartbeats 1000000 in
theorem ecount_calls (lo go gp : Nat) (out : List UInt8) (W : World) (n most : Int) (fv : Value) (h : JE lo go gp out W) (ho : out.length ≤ 549755813888) (hn : n < 9223372036854775808) :
    Calls Try.prog 24 #[.int .i64 n, .int .i64 most, fv, .pointer (some ⟨gp, 0, none⟩)] W (EnP lo go gp (out ++ (enc n.toNat)) W) := by
  have c0 := h.put.cell 0
  simp only [List.getElem?_toArray, List.getElem?_cons_zero] at c0
  obtain ⟨BY, hBY⟩ : ∃ BY, BY = enc n.toNat := ⟨_, rfl⟩
  have HIN : Hid (∀ W', Calls Try.prog 20 #[.slice none 0 0, .int .i64 n] W' (NB W' BY)) := fun W' => by rw [hBY]; exact (by have := num_calls (.slice none 0 0) [] n hn W' (holds_nil W') (by simp); rwa [List.nil_append] at this)
  have HLN : Hid (out.length + BY.length ≤ 1099511627776) := by show _ ≤ _; rw [hBY]; have := enc_length n.toNat (by omega); omega
  have HJ0 : Hid (JE lo go gp out W.drew) := h.below (Below.refl _ W).drew
  have HF : Hid (Fr lo W W.drew) := Fr.below (Below.refl _ W).drew h.low
  rw [← hBY]
  clear h hBY hn ho
  go_enter Try.func24, Try.ntmps24
  go_wp2_with fail
  go_region_held3 (fun w' => w'.cell? ⟨gp, 0, none⟩ = some (.func (.func 18) #[] #[.pointer (some ⟨go, 0, none⟩)])) (go_keep) (first
    | (go_at_call 20; refine (HIN.out _).mono ?_; rintro e w1 ⟨g, hg, rfl, hh, hb⟩; have HJ1 : Hid (JE lo go gp out w1) := HJ0.out.below hb; have HH1 : Hid (Lib.HoldsBytes w1 _ BY) := hh; have HF1 : Hid (Fr lo W w1) := HF.out.trans (Fr.below hb HJ0.out.low); have c1 := HJ1.out.put.cell 0; simp only [List.getElem?_toArray, List.getElem?_cons_zero] at c1; clear hg hh hb)
    | (go_at_call 18; refine (put_calls lo go gp out BY _ _ _ HJ1.out HH1.out HLN.out).mono ?_; rintro e w2 ⟨rfl, hj, hf⟩; have HJ2 : Hid (JE lo go gp _ w2) := hj; have HF2 : Hid (Fr lo W w2) := HF1.out.trans hf; have c2 := hj.put.cell 0; simp only [List.getElem?_toArray, List.getElem?_cons_zero] at c2; clear hj hf)
    )
  go_wp2_with fail
  first | go_end0 | refine bodyPost_ret (results_none rfl _ _ _) rfl ?_
  exact ⟨rfl, HJ2.out, HF2.out⟩
end Go.Proofs.Ytomkoajhjijplaa
