/- The contract of Decode. -/
import Derived.Test.YtomkoajhjijplaaDD
namespace Go.Proofs.Ytomkoajhjijplaa
open Go.ChangeShapes Go.WideShapes Go.ChangeAt Go.RowKit
theorem info25 : (Try.prog.info? 25).map (fun i => (i.zero, i.size, i.bytes)) = some (some (.agg #[.string ⟨#[]⟩, .int .i64 0, .slice none 0 0, .slice none 0 0]), 4, 72) := by kernel_rfl
theorem load4 {w : World} {g : Nat} {c0 c1 c2 c3 : Value} (h : Bk w g #[c0, c1, c2, c3] 25) : (loadVar 25 ⟨g, 0, none⟩).run Try.prog w = .ok (.agg #[c0, c1, c2, c3]) w := by
  have hl : (loadCells ⟨g, 0, none⟩ 4).run Try.prog w = .ok #[c0, c1, c2, c3] w :=
    run_loadCells_list (P := Try.prog) w ⟨g, 0, none⟩ [c0, c1, c2, c3] (fun j v hv => by
      rw [add_plain, Nat.zero_add, h.cell j]
      simpa using hv)
  obtain ⟨i0, hi, _, hz1, _⟩ := info_parts info25
  have hagg : (isAgg 25).run Try.prog w = .ok true w := by
    unfold isAgg
    rw [Sem.run_bind, run_underlying Try.underlying25 w]
    rfl
  simp [loadVar, Sem.run_bind, hagg, sizeOf, typeInfo, hi, hz1, hl]
theorem ret10 (tmps : Array Value) {w : World} {g : Nat} {c0 c1 c2 c3 y : Value} (hp : tmps.getD 2 undef = .pointer (some ⟨g, 0, none⟩)) (hq : tmps.getD 3 undef = y) (hb : Bk w g #[c0, c1, c2, c3] 25) :
    (results Try.f10 tmps).run Try.prog w = .ok (.tuple #[.agg #[c0, c1, c2, c3], y]) w := by
  have hp' : tmps[2]?.getD undef = .pointer (some ⟨g, 0, none⟩) := by simpa using hp
  have hq' : tmps[3]?.getD undef = y := by simpa using hq
  simp [results, hp', hq', asAddr, load4 hb]
/-- Four cells of block g are written. -/
def set4 (w : World) (g : Nat) (c0 c1 c2 c3 : Value) : World :=
  (((w.setCell ⟨g, 0, none⟩ c0).setCell ⟨g, 1, none⟩ c1).setCell ⟨g, 2, none⟩ c2).setCell ⟨g, 3, none⟩ c3
theorem set4_bk {w : World} {g : Nat} {d0 d1 d2 d3 : Value} (h : Bk w g #[d0, d1, d2, d3] 25) (c0 c1 c2 c3 : Value) : Bk (set4 w g c0 c1 c2 c3) g #[c0, c1, c2, c3] 25 := (((h.set 0 c0).set 1 c1).set 2 c2).set 3 c3
theorem set4_kb (w : World) (g : Nat) (c0 c1 c2 c3 : Value) : KB g w (set4 w g c0 c1 c2 c3) :=
  (((KB.setCell g w 0 c0).trans (KB.setCell g _ _ c1)).trans (KB.setCell g _ _ c2)).trans (KB.setCell g _ _ c3)
def zB : Bt := ⟨⟨#[]⟩, 0, [], []⟩
/-- What Decode answers. -/
def decB (l : List UInt8) : Bt × Int :=
  if en (rdB l 0).2.1 (rdB l 0).2.2 = 0 then (if mayB (rdB l 0).1 = true then ((rdB l 0).1, 0) else (zB, 3)) else (zB, en (rdB l 0).2.1 (rdB l 0).2.2)
def DeP (w : World) (r : Bt × Int) (x : Ending) (w' : World) : Prop :=
  ∃ u, x = .returned (.tuple #[u, .int .i64 r.2]) ∧ BIs w' u r.1 ∧ Below w.heap.size w w'
theorem zB_is (w : World) : BIs w (.agg #[.string ⟨#[]⟩, .int .i64 0, .slice none 0 0, .slice none 0 0]) zB :=
  ⟨none, 0, 0, none, 0, rfl, holds_nil w, by decide, fun i t h => by simp [zB] at h⟩
/-- Decode's boxes. -/
theorem de_new (w : World) : Bk ((w.alloc (.cells #[.string ⟨#[]⟩, .int .i64 0, .slice none 0 0, .slice none 0 0] 25)).alloc (.cells #[.string ⟨#[]⟩, .int .i64 0, .slice none 0 0, .slice none 0 0] 25)) w.heap.size #[.string ⟨#[]⟩, .int .i64 0, .slice none 0 0, .slice none 0 0] 25 ∧ Bk ((w.alloc (.cells #[.string ⟨#[]⟩, .int .i64 0, .slice none 0 0, .slice none 0 0] 25)).alloc (.cells #[.string ⟨#[]⟩, .int .i64 0, .slice none 0 0, .slice none 0 0] 25)) (w.heap.size + 1) #[.string ⟨#[]⟩, .int .i64 0, .slice none 0 0, .slice none 0 0] 25 ∧ ((w.alloc (.cells #[.string ⟨#[]⟩, .int .i64 0, .slice none 0 0, .slice none 0 0] 25)).alloc (.cells #[.string ⟨#[]⟩, .int .i64 0, .slice none 0 0, .slice none 0 0] 25)).heap.size = w.heap.size + 2 ∧ Below w.heap.size w ((w.alloc (.cells #[.string ⟨#[]⟩, .int .i64 0, .slice none 0 0, .slice none 0 0] 25)).alloc (.cells #[.string ⟨#[]⟩, .int .i64 0, .slice none 0 0, .slice none 0 0] 25)) := by
  refine ⟨(Bk.new w _ _).below (bel1 _ _), ?_, by simp, bel2 (bel1 _ _) (bel1 _ _)⟩
  have := Bk.new (w.alloc (.cells #[.string ⟨#[]⟩, .int .i64 0, .slice none 0 0, .slice none 0 0] 25)) #[.string ⟨#[]⟩, .int .i64 0, .slice none 0 0, .slice none 0 0] 25
  simpa using this
set_option maxHeartbeats 4000000 in
set_option maxRecDepth 100000 in
theorem decode_calls (v : Value) (l : List UInt8) (w : World) (hv : Lib.HoldsBytes w v l) (hl : l.length ≤ 281474976710656) : Calls Try.prog 10 #[v] w (DeP w (decB l)) := by
  obtain ⟨n1, n2, n3, n4⟩ := de_new w
  have OC : Hid (Calls Try.prog 28 #[v] ((w.alloc (.cells #[.string ⟨#[]⟩, .int .i64 0, .slice none 0 0, .slice none 0 0] 25)).alloc (.cells #[.string ⟨#[]⟩, .int .i64 0, .slice none 0 0, .slice none 0 0] 25)) _) := open_calls v l _ (holds_below hv n4) hl
  have HN : Hid (Bk ((w.alloc (.cells #[.string ⟨#[]⟩, .int .i64 0, .slice none 0 0, .slice none 0 0] 25)).alloc (.cells #[.string ⟨#[]⟩, .int .i64 0, .slice none 0 0, .slice none 0 0] 25)) w.heap.size #[.string ⟨#[]⟩, .int .i64 0, .slice none 0 0, .slice none 0 0] 25 ∧ Bk ((w.alloc (.cells #[.string ⟨#[]⟩, .int .i64 0, .slice none 0 0, .slice none 0 0] 25)).alloc (.cells #[.string ⟨#[]⟩, .int .i64 0, .slice none 0 0, .slice none 0 0] 25)) (w.heap.size + 1) #[.string ⟨#[]⟩, .int .i64 0, .slice none 0 0, .slice none 0 0] 25 ∧ ((w.alloc (.cells #[.string ⟨#[]⟩, .int .i64 0, .slice none 0 0, .slice none 0 0] 25)).alloc (.cells #[.string ⟨#[]⟩, .int .i64 0, .slice none 0 0, .slice none 0 0] 25)).heap.size = w.heap.size + 2 ∧ Below w.heap.size w ((w.alloc (.cells #[.string ⟨#[]⟩, .int .i64 0, .slice none 0 0, .slice none 0 0] 25)).alloc (.cells #[.string ⟨#[]⟩, .int .i64 0, .slice none 0 0, .slice none 0 0] 25))) := ⟨n1, n2, n3, n4⟩
  obtain ⟨va, vn, vc, rfl⟩ : ∃ p n c, v = .slice p n c := by obtain ⟨p, c, rfl, _⟩ := hv; exact ⟨_, _, _, rfl⟩
  have HBW : Hid (∀ g h gv qb W, JD g h gv l 0 W → Apart g h gv qb → Bk W qb #[.string ⟨#[]⟩, .int .i64 0, .slice none 0 0, .slice none 0 0] 25 → Calls Try.prog 25 #[.agg #[.func (.func 29) #[] #[.pointer (some ⟨gv, 0, none⟩)], .func (.func 31) #[] #[.pointer (some ⟨gv, 0, none⟩)], .func (.func 33) #[] #[.pointer (some ⟨gv, 0, none⟩)], .func (.func 34) #[] #[.pointer (some ⟨gv, 0, none⟩)]], .pointer (some ⟨qb, 0, none⟩)] W (fun x W' => x = .returned (.tuple #[]) ∧ ∃ rp rn rc wp wd, Bk W' qb (b4 (rdB l 0).1 (.slice rp rn rc) (.slice wp (rdB l 0).1.ws.length wd)) 25 ∧ (∀ r W2, r < W.heap.size → KB r W' W2 → Lib.HoldsBytes W2 (.slice rp rn rc) (rdB l 0).1.row ∧ WR W2 wp (rdB l 0).1.ws) ∧ (rdB l 0).1.ws.length ≤ 500 ∧ JD g h gv (rdB l 0).2.1 (rdB l 0).2.2 W' ∧ K2 g qb W W')) := fun g h gv qb W j a b => dbatch_walk g h gv qb l 0 W j a b
  have hdef : decB l = if en (rdB l 0).2.1 (rdB l 0).2.2 = 0 then (if mayB (rdB l 0).1 = true then ((rdB l 0).1, 0) else (zB, 3)) else (zB, en (rdB l 0).2.1 (rdB l 0).2.2) := rfl
  generalize decB l = DL at hdef ⊢
  generalize rdB l 0 = R at HBW hdef
  obtain ⟨b, l3, e3⟩ := R
  dsimp only at HBW hdef
  have HD : Hid (DL = if en l3 e3 = 0 then (if mayB b = true then (b, 0) else (zB, 3)) else (zB, en l3 e3)) := hdef
  have HP : Hid (∀ x w', DeP w DL x w' ↔ ∃ u, x = .returned (.tuple #[u, .int .i64 DL.2]) ∧ BIs w' u DL.1 ∧ Below w.heap.size w w') := fun _ _ => Iff.rfl
  clear hv hl hdef n1 n2 n3 n4
  go_enter Try.func10, Try.ntmps10
  go_wp2_with fail
  generalize hW0 : (w.alloc (Obj.cells #[.string ⟨#[]⟩, .int .i64 0, .slice none 0 0, .slice none 0 0] 25)).alloc (Obj.cells #[.string ⟨#[]⟩, .int .i64 0, .slice none 0 0, .slice none 0 0] 25) = W0
  rw [hW0] at OC HN
  clear hW0
  refine OC.out.mono ?_
  rintro x w1 ⟨g, h, rfl, hh1, hh2, hg1, s1, b1⟩
  have hz1 := b1.size
  have hz0 := HN.out.2.2.1
  have hB2 : Below W0.heap.size W0 (w1.alloc (.cells #[.pointer (some ⟨g, 0, none⟩)] 58)) := bel2 b1 (bel1 _ _)
  have J2 : Hid (JD g h w1.heap.size l 0 (w1.alloc (.cells #[.pointer (some ⟨g, 0, none⟩)] 58))) := ⟨s1.keep ((bel1 w1 _).block g (by omega)) ((bel1 w1 _).block h (by omega)), Bk.new w1 _ _, by omega, by simp; omega⟩
  have T2 : Hid (Bk (w1.alloc (.cells #[.pointer (some ⟨g, 0, none⟩)] 58)) w.heap.size #[.string ⟨#[]⟩, .int .i64 0, .slice none 0 0, .slice none 0 0] 25 ∧ Bk (w1.alloc (.cells #[.pointer (some ⟨g, 0, none⟩)] 58)) (w.heap.size + 1) #[.string ⟨#[]⟩, .int .i64 0, .slice none 0 0, .slice none 0 0] 25 ∧ Below w.heap.size w (w1.alloc (.cells #[.pointer (some ⟨g, 0, none⟩)] 58)) ∧ w.heap.size + 2 < (w1.alloc (.cells #[.pointer (some ⟨g, 0, none⟩)] 58)).heap.size) := ⟨HN.out.1.below hB2, HN.out.2.1.below hB2, bel2 HN.out.2.2.2 hB2, by simp; omega⟩
  have HG : Hid (w.heap.size + 2 ≤ h ∧ w.heap.size + 2 ≤ g ∧ w.heap.size + 2 ≤ w1.heap.size) := by show _ ∧ _; omega
  obtain ⟨gv, hgv⟩ : ∃ gv, gv = w1.heap.size := ⟨_, rfl⟩
  obtain ⟨W2, hW2⟩ : ∃ W2, W2 = w1.alloc (.cells #[.pointer (some ⟨g, 0, none⟩)] 58) := ⟨_, rfl⟩
  rw [← hW2] at J2 T2
  rw [← hgv] at J2 HG
  have HGV : Hid (gv = w1.heap.size) := hgv
  have HW2 : Hid (W2 = w1.alloc (.cells #[.pointer (some ⟨g, 0, none⟩)] 58)) := hW2
  have BC : Hid (Calls Try.prog 25 _ W2 _) := HBW.out g h gv (w.heap.size + 1) W2 J2.out ⟨by have := HG.out; omega, by have := HG.out; omega, by have := HG.out; omega⟩ T2.out.2.1
  clear hh1 hh2 hg1 s1 b1 hz1 hz0 hB2 hgv hW2 OC HN HBW
  go_upto_region 3 with fail
  rw [← HW2.out, ← HGV.out]
  go_wp2_with fail
  refine BC.out.mono ?_
  rintro x w3 ⟨rfl, rp, rn, rc, wp, wd, hbk, hpers, hlen, hj, hk⟩
  have B3 : Hid (Bk w3 w.heap.size #[.string ⟨#[]⟩, .int .i64 0, .slice none 0 0, .slice none 0 0] 25) := T2.out.1.k2 hk (by have := HG.out; omega) (by omega)
  have Q3 : Hid (Bk w3 (w.heap.size + 1) (b4 b (.slice rp rn rc) (.slice wp b.ws.length wd)) 25) := hbk
  have P3 : Hid (∀ W2', KB w.heap.size w3 W2' → BIs W2' (.agg #[.string b.key, .int .i64 b.ex, .slice rp rn rc, .slice wp b.ws.length wd]) b) := fun W2' k => by
    obtain ⟨h1, h2⟩ := hpers w.heap.size W2' (by have := T2.out.2.2.2; omega) k
    exact ⟨rp, rn, rc, wp, wd, rfl, h1, by omega, h2⟩
  have U3 : Hid (Below w.heap.size w w3) := T2.out.2.2.1.trans (hk.below (by have := HG.out; omega) (by omega) (by have := T2.out.2.2.2; omega))
  have EC : Hid (Calls Try.prog 35 #[.pointer (some ⟨g, 0, none⟩)] w3 _) := end_st w3 g h l3 e3 hj.st
  have cv : w3.cell? ⟨gv, 0, none⟩ = some (Value.pointer (some ⟨g, 0, none⟩)) := hj.var.cell 0
  have CC : Hid (Calls Try.prog 12 #[.agg #[.string b.key, .int .i64 b.ex, .slice rp rn rc, .slice wp b.ws.length wd]] w3 _) := check_calls _ b w3 (P3.out w3 (KB.refl _ _))
  clear hbk hpers hlen hj hk BC T2 J2
  obtain ⟨E, hE⟩ : ∃ E, E = en l3 e3 := ⟨_, rfl⟩
  rw [← hE] at EC HD
  go_wp2_with fail
  refine EC.out.mono ?_
  rintro x w4 ⟨rfl, hw4⟩
  have hw4' := hw4.symm
  subst hw4'
  clear hw4 cv hE
  have d0 : w3.cell? ⟨w.heap.size, 0, none⟩ = some (Value.string ⟨#[]⟩) := B3.out.cell 0
  have d1 : w3.cell? ⟨w.heap.size, 1, none⟩ = some (Value.int .i64 0) := B3.out.cell 1
  have d2 : w3.cell? ⟨w.heap.size, 2, none⟩ = some (Value.slice none 0 0) := B3.out.cell 2
  have d3 : w3.cell? ⟨w.heap.size, 3, none⟩ = some (Value.slice none 0 0) := B3.out.cell 3
  have f0 := B3.out.frozen 0
  have f1 := B3.out.frozen 1
  have f2 := B3.out.frozen 2
  have f3 := B3.out.frozen 3
  by_cases h0 : E = 0
  · subst h0
    have c0 : w3.cell? ⟨w.heap.size + 1, 0, none⟩ = some (Value.string b.key) := Q3.out.cell 0
    have c1 : w3.cell? ⟨w.heap.size + 1, 1, none⟩ = some (Value.int .i64 b.ex) := Q3.out.cell 1
    have c2 : w3.cell? ⟨w.heap.size + 1, 2, none⟩ = some (Value.slice rp rn rc) := Q3.out.cell 2
    have c3 : w3.cell? ⟨w.heap.size + 1, 3, none⟩ = some (Value.slice wp b.ws.length wd) := Q3.out.cell 3
    have HCK : Hid (ckE b = if mayB b = true then 0 else 1) := rfl
    generalize ckE b = K at CC HCK
    go_wp2_with fail
    refine CC.out.mono ?_
    rintro x w5 ⟨rfl, hb5⟩
    have B5 : Hid (Bk w5 w.heap.size #[.string ⟨#[]⟩, .int .i64 0, .slice none 0 0, .slice none 0 0] 25) := B3.out.below hb5
    have Q5 : Hid (Bk w5 (w.heap.size + 1) (b4 b (.slice rp rn rc) (.slice wp b.ws.length wd)) 25) := Q3.out.below hb5
    have U5 : Hid (Below w.heap.size w w5) := bel2 U3.out hb5
    have KB5 : Hid (KB w.heap.size w3 w5) := KB.of_below hb5
    clear c0 c1 c2 c3 d0 d1 d2 d3 f0 f1 f2 f3 hb5
    have d0 : w5.cell? ⟨w.heap.size, 0, none⟩ = some (Value.string ⟨#[]⟩) := B5.out.cell 0
    have d1 : w5.cell? ⟨w.heap.size, 1, none⟩ = some (Value.int .i64 0) := B5.out.cell 1
    have d2 : w5.cell? ⟨w.heap.size, 2, none⟩ = some (Value.slice none 0 0) := B5.out.cell 2
    have d3 : w5.cell? ⟨w.heap.size, 3, none⟩ = some (Value.slice none 0 0) := B5.out.cell 3
    have f0 := B5.out.frozen 0
    have f1 := B5.out.frozen 1
    have f2 := B5.out.frozen 2
    have f3 := B5.out.frozen 3
    by_cases hm : mayB b = true
    · have hD2 : DL = (b, 0) := by have := HD.out; simpa [hm] using this
      obtain rfl : K = 0 := by rw [HCK.out, if_pos hm]
      subst hD2
      have c0 : w5.cell? ⟨w.heap.size + 1, 0, none⟩ = some (Value.string b.key) := Q5.out.cell 0
      have c1 : w5.cell? ⟨w.heap.size + 1, 1, none⟩ = some (Value.int .i64 b.ex) := Q5.out.cell 1
      have c2 : w5.cell? ⟨w.heap.size + 1, 2, none⟩ = some (Value.slice rp rn rc) := Q5.out.cell 2
      have c3 : w5.cell? ⟨w.heap.size + 1, 3, none⟩ = some (Value.slice wp b.ws.length wd) := Q5.out.cell 3
      clear hm
      go_wp2_with fail
      refine bodyPost_ret (ret10 _ (g := w.heap.size) rfl rfl (set4_bk B5.out (.string b.key) (.int .i64 b.ex) (.slice rp rn rc) (.slice wp b.ws.length wd))) rfl ?_
      exact (HP.out _ _).2 ⟨_, rfl, P3.out _ (KB5.out.trans (set4_kb w5 w.heap.size _ _ _ _)), U5.out.trans ((set4_kb w5 w.heap.size _ _ _ _).below (Nat.le_refl _) U5.out.size)⟩
    · have hD2 : DL = (zB, 3) := by have := HD.out; simpa [hm] using this
      obtain rfl : K = 1 := by rw [HCK.out, if_neg hm]
      subst hD2
      clear hm
      go_wp2_with fail
      refine bodyPost_ret (ret10 _ (g := w.heap.size) rfl rfl (set4_bk B5.out (.string ⟨#[]⟩) (.int .i64 0) (.slice none 0 0) (.slice none 0 0))) rfl ?_
      exact (HP.out _ _).2 ⟨_, rfl, zB_is _, U5.out.trans ((set4_kb w5 w.heap.size _ _ _ _).below (Nat.le_refl _) U5.out.size)⟩
  · have hD2 : DL = (zB, E) := by rw [HD.out, if_neg h0]
    subst hD2
    have dE : (E != 0) = true := by simpa using h0
    clear h0
    go_wp2_with fail
    refine bodyPost_ret (ret10 _ (g := w.heap.size) rfl rfl (set4_bk B3.out (.string ⟨#[]⟩) (.int .i64 0) (.slice none 0 0) (.slice none 0 0))) rfl ?_
    exact (HP.out _ _).2 ⟨_, rfl, zB_is _, U3.out.trans ((set4_kb w3 w.heap.size _ _ _ _).below (Nat.le_refl _) U3.out.size)⟩
end Go.Proofs.Ytomkoajhjijplaa
