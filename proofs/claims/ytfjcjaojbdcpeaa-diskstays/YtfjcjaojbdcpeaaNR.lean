/- The contract of DeleteFunc over numbers. -/
import Derived.Test.YtfjcjaojbdcpeaaNQ
namespace Go.Proofs.Ytfjcjaojbdcpeaa
open Go.ChangeShapes Go.WideShapes Go.ChangeAt Go.RowKit Go.Maps
theorem KB.setCell (g : Nat) (w : World) (o : Nat) (v : Value) : KB g w (w.setCell ⟨g, o, none⟩ v) :=
  ⟨rfl, rfl, rfl, by simp [World.setCell], fun k _ hk => Below.heap_setCell _ _ _ _ hk⟩
theorem KB.setCells (g : Nat) : ∀ (vs : List Value) (o : Nat) (w : World), KB g w (w.setCells g o vs)
  | [], _, w => KB.refl g w
  | v :: r, o, w => (KB.setCell g w o v).trans (KB.setCells g r (o + 1) _)
/-- What is left of a list where those are taken out of which P says true. -/
def left (P : Int → Bool) (zs : List Int) : List Int := zs.filter fun z => !P z
theorem left_take_succ {P : Int → Bool} {zs : List Int} {j : Nat} {z : Int} (hz : zs[j]? = some z) : left P (zs.take (j + 1)) = left P (zs.take j) ++ (if P z = true then [] else [z]) := by
  unfold left
  rw [List.take_add_one, hz, List.filter_append]
  cases h : P z <;> simp [h]
theorem left_len (P : Int → Bool) (zs : List Int) : (left P zs).length ≤ zs.length := List.length_filter_le _ _
def DfP (P : Int → Bool) (zs : List Int) (B c : Nat) (w : World) (e : Ending) (w' : World) : Prop :=
  e = .returned (.slice (some ⟨B, 0, none⟩) (left P zs).length c) ∧ Ih w' B (left P zs) ∧ KB B w w'
set_option maxHeartbeats 4000000 in
set_option maxRecDepth 100000 in
theorem delete_calls (P : Int → Bool) (zs : List Int) (B n c : Nat) (hn : zs.length = n) (hc : n ≤ c) (hs : n ≤ 1000) (q : Value) (w : World) (h : Ih w B zs) (hfr : ∀ o, w.frozen? ⟨B, o, none⟩ = false) (hBl : B < w.heap.size) (hP : ∀ W, KB B w W → ∀ z ∈ zs, Calls Try.prog 52 #[.int .i64 z, q] W fun e w' => e = .returned (.bool (P z)) ∧ Below W.heap.size W w') :
    Calls Try.prog 51 #[.slice (some ⟨B, 0, none⟩) n c, .func (.func 52) #[] #[q]] w (DfP P zs B c w) := by
  have HX : Hid (Calls Try.prog 56 #[.slice (some ⟨B, 0, none⟩) n c, .func (.func 52) #[] #[q]] w (IxP P zs w)) := index_calls P zs B n c hn hs q w h (fun W hB => hP W (KB.of_below hB))
  have HI : Hid (Ih w B zs) := h
  have HN : Hid (zs.length = n) := hn
  have HS : Hid (n ≤ 1000) := hs
  have HCn : Hid (n ≤ c) := hc
  have HFR : Hid (∀ o, w.frozen? ⟨B, o, none⟩ = false) := hfr
  have HBL : Hid (B < w.heap.size) := hBl
  have HP : Hid (∀ W, KB B w W → ∀ z ∈ zs, Calls Try.prog 52 #[.int .i64 z, q] W fun e w' => e = .returned (.bool (P z)) ∧ Below W.heap.size W w') := hP
  have HQ : Hid (∀ m w', m = (left P zs).length → Ih w' B (left P zs) → KB B w w' → DfP P zs B c w (.returned (.slice (some ⟨B, 0, none⟩) m c)) w') := fun m w' h1 h2 h3 => ⟨by rw [h1], h2, h3⟩
  generalize DfP P zs B c w = Q at HQ ⊢
  clear h hn hs hP hc hfr hBl
  go_enter Try.func51, Try.ntmps51
  go_wp2_with fail
  refine HX.out.mono ?_
  rintro e w1 ⟨hix, hb⟩
  have HB1 : Hid (Below w.heap.size w w1) := hb
  rcases hix with ⟨j, z, rfl, hj, hp, hf⟩ | ⟨rfl, hf⟩
  · have hjn : j < n := by have := (List.getElem?_eq_some_iff.1 hj).1; have := HN.out; omega
    have h0 : ((j : Int) == -1) = false := by simp
    have HF0 : Hid (left P (zs.take (j + 1)) = zs.take j) := by
      show _ = _
      rw [left_take_succ hj, if_pos hp, List.append_nil]
      unfold left
      rw [List.filter_eq_self]
      intro a ha
      obtain ⟨i, hi⟩ := List.getElem?_of_mem ha
      have hil : i < j := by have := (List.getElem?_eq_some_iff.1 hi).1; simp at this; omega
      rw [List.getElem?_take_of_lt hil] at hi
      rw [hf i a hil hi]
      rfl
    have HJ : Hid (j < n) := hjn
    have hj3 : (j : Int) < 1000 := by have := HS.out; omega
    clear hj hp hf hb HX
    go_wp2_with fail
    go_loopw [5, 6, 7] (fun i5 i6 _ wr => ∃ i t : Nat, i5 = .int .i64 (i : Int) ∧ i6 = .int .i64 (t : Int) ∧ t ≤ n ∧ i < t ∧ Hid (i = (left P (zs.take t)).length) ∧ Hid (Ih wr B (left P (zs.take t))) ∧ Hid (∀ o z, t ≤ o → zs[o]? = some z → wr.cell? ⟨B, o, none⟩ = some (.int .i64 z)) ∧ Hid (∀ o, o < n → (wr.cell? ⟨B, o, none⟩).isSome = true) ∧ Hid (∀ o, wr.frozen? ⟨B, o, none⟩ = false) ∧ Hid (KB B w wr)) (fun _ i6 _ _ => n - (intOf i6).toNat)
    case atStart =>
      refine ⟨j, j + 1, rfl, by first | rfl | (rw [Int.natCast_add]; rfl), HJ.out, Nat.lt_succ_self _, ?_, ?_, ?_, ?_, ?_, ?_⟩
      · show _ = _
        rw [HF0.out, List.length_take]
        have := HJ.out
        have := HN.out
        omega
      · intro o z hz
        rw [HF0.out] at hz
        have hol : o < j := by have := (List.getElem?_eq_some_iff.1 hz).1; simp at this; omega
        rw [List.getElem?_take_of_lt hol] at hz
        exact (HI.out.below HB1.out) o z hz
      · exact fun o z _ hz => (HI.out.below HB1.out) o z hz
      · intro o ho
        obtain ⟨z, hz⟩ : ∃ z, zs[o]? = some z := ⟨_, List.getElem?_eq_getElem (by have := HN.out; omega)⟩
        rw [(HI.out.below HB1.out) o z hz]
        rfl
      · exact fun o => (HB1.out.frozen (p := ⟨B, o, none⟩) HBL.out).trans (HFR.out o)
      · exact KB.of_below HB1.out
    case round =>
      obtain ⟨i, t, rfl, rfl, ht, hit, HI5, HL, HR, HSo, HFz, HK⟩ := hrel
      by_cases hlt : t < n
      · have htl : (t : Int) < (n : Int) := by omega
        have ht9 : (t : Int) < 1000 := by have := HS.out; omega
        obtain ⟨z, hz⟩ : ∃ z, zs[t]? = some z := ⟨_, List.getElem?_eq_getElem (by have := HN.out; omega)⟩
        have hc := HR.out t z (Nat.le_refl _) hz
        have HZ : Hid (zs[t]? = some z) := hz
        have HC : Hid (Calls Try.prog 52 #[.int .i64 z, q] wr fun e w' => e = .returned (.bool (P z)) ∧ Below wr.heap.size wr w') := HP.out wr HK.out z (List.mem_of_getElem? hz)
        have HT := left_take_succ (P := P) hz
        obtain ⟨pz, hpz⟩ : ∃ pz, pz = P z := ⟨_, rfl⟩
        rw [← hpz] at HC HT
        have HTT : Hid (left P (zs.take (t + 1)) = left P (zs.take t) ++ (if pz = true then [] else [z])) := HT
        clear hz hpz HT
        go_wp2_with fail
        refine HC.out.mono ?_
        rintro e w2 ⟨rfl, hb⟩
        have HB2 : Hid (Below wr.heap.size wr w2) := hb
        have HK2 : Hid (KB B w w2) := HK.out.trans (KB.of_below hb)
        have hBr : B < wr.heap.size := Nat.lt_of_lt_of_le HBL.out HK.out.2.2.2.1
        have HFz2 : Hid (∀ o, w2.frozen? ⟨B, o, none⟩ = false) := fun o => (hb.frozen (p := ⟨B, o, none⟩) hBr).trans (HFz.out o)
        have HL2 : Hid (Ih w2 B (left P (zs.take t))) := HL.out.below hb
        have HR2 : Hid (∀ o z, t ≤ o → zs[o]? = some z → w2.cell? ⟨B, o, none⟩ = some (.int .i64 z)) := fun o z h1 h2 => cell_below (HR.out o z h1 h2) hb
        have HS2 : Hid (∀ o, o < n → (w2.cell? ⟨B, o, none⟩).isSome = true) := fun o ho => by
          obtain ⟨v, hv⟩ := Option.isSome_iff_exists.1 (HSo.out o ho)
          rw [cell_below hv hb]
          rfl
        clear hb hc HL HR HSo HFz HK
        cases pz with
        | true =>
          have HT1 : Hid (left P (zs.take (t + 1)) = left P (zs.take t)) := by
            have := HTT.out
            rw [if_pos rfl, List.append_nil] at this
            exact this
          clear HTT
          go_wp2_with fail
          refine ⟨⟨i, t + 1, rfl, by first | rfl | (rw [Int.natCast_add]; rfl), hlt, by omega, ?_, ?_, ?_, HS2, HFz2, HK2⟩, ?_⟩
          · show _ = _
            rw [HT1.out]; exact HI5.out
          · show Ih _ _ _
            rw [HT1.out]; exact HL2.out
          · exact fun o z h1 h2 => HR2.out o z (by omega) h2
          · simp only [intOf]; omega
        | false =>
          have hil : (i : Int) < (n : Int) := by omega
          have hi9 : (i : Int) < 1000 := by omega
          obtain ⟨v, hv⟩ := Option.isSome_iff_exists.1 (HS2.out i (by omega))
          have hfz := HFz2.out i
          have HT1 : Hid (left P (zs.take (t + 1)) = left P (zs.take t) ++ [z]) := by
            have := HTT.out
            rw [if_neg (by simp)] at this
            exact this
          clear HTT
          go_wp2_with fail
          refine ⟨⟨i + 1, t + 1, by first | rfl | (rw [Int.natCast_add]; rfl), by first | rfl | (rw [Int.natCast_add]; rfl), hlt, by omega, ?_, ?_, ?_, ?_, ?_, ?_⟩, ?_⟩
          · show _ = _
            rw [HT1.out, List.length_append, ← HI5.out]; rfl
          · intro o z' hz'
            rw [HT1.out] at hz'
            by_cases e : o = i
            · subst e
              rw [List.getElem?_append_right (by have := HI5.out; omega)] at hz'
              have : o - (left P (List.take t zs)).length = 0 := by have := HI5.out; omega
              rw [this] at hz'
              injection hz' with hz'
              rw [← hz']
              exact World.cell?_setCell_same _ _ _ hv
            · rw [List.getElem?_append_left (by have := (List.getElem?_eq_some_iff.1 hz').1; simp at this; have := HI5.out; omega)] at hz'
              exact (World.cell?_setCell_other w2 _ _ _ (fun e2 => e (by injection e2 with _ e2; exact e2.symm))).trans (HL2.out o z' hz')
          · exact fun o z' h1 h2 => (World.cell?_setCell_other w2 _ _ _ (fun e2 => by injection e2 with _ e2; omega)).trans (HR2.out o z' (by omega) h2)
          · intro o ho
            by_cases e : o = i
            · subst e; rw [World.cell?_setCell_same _ _ _ hv]; rfl
            · rw [World.cell?_setCell_other w2 _ _ _ (fun e2 => e (by injection e2 with _ e2; exact e2.symm))]; exact HS2.out o ho
          · exact fun o => (World.frozen?_setCell _ _ _ _).trans (HFz2.out o)
          · exact HK2.out.trans (KB.setCell B w2 i _)
          · simp only [intOf]; omega
      · obtain rfl : t = n := by omega
        have hzt : zs.take t = zs := List.take_of_length_le (by have := HN.out; omega)
        have hin : (i : Int) ≤ (t : Int) := by omega
        have h0i : (0 : Int) ≤ (i : Int) := by omega
        have hic : (i : Int) ≤ (c : Int) := by have := HCn.out; omega
        have htc : (t : Int) ≤ (c : Int) := by have := HCn.out; omega
        have hcl := Lib.run_clear_slice (P := Try.prog) wr 32 3 0 (.int .i64 0) Try.underlying32 (fun _ => by kernel_rfl) rfl rfl B i (t - i) (c - i) (by omega) (fun jj hjj => HSo.out _ (by omega)) (fun jj _ => HFz.out _)
        have HLast : Hid (Q (.returned (.slice (some ⟨B, 0, none⟩) i c)) (wr.setCells B i (List.replicate (t - i) (.int .i64 0)))) := by
          refine HQ.out i _ (by rw [HI5.out, hzt]) ?_ (HK.out.trans (KB.setCells B _ _ _))
          intro o z hz
          have hol : o < i := by have := (List.getElem?_eq_some_iff.1 hz).1; rw [HI5.out, hzt]; exact this
          rw [World.cell?_setCells_out B _ _ _ _ (fun _ _ => .inl hol)]
          exact HL.out o z (by rw [hzt]; exact hz)
        go_wp2_with fail
        exact HLast.out
  · have h0 : ((-1 : Int) == -1) = true := rfl
    have hl : left P zs = zs := by
      unfold left
      rw [List.filter_eq_self]
      intro a ha
      rw [hf a ha]
      rfl
    have HLast : Hid (Q (.returned (.slice (some ⟨B, 0, none⟩) n c)) w1) := HQ.out n w1 (by rw [hl]; exact HN.out.symm) (by rw [hl]; exact HI.out.below hb) (KB.of_below hb)
    clear hf hb HX hl
    go_wp2_with fail
    exact HLast.out
end Go.Proofs.Ytfjcjaojbdcpeaa
