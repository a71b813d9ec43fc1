/- A reader and a target beside it; the contract of decode of a row. -/
import Derived.Test.YtkaaddahegkmgaaGreatSB
import Derived.Test.YtkaaddahegkmgaaGreatPU
import Derived.Test.YtkaaddahegkmgaaGreatPK
import Derived.Test.YtkaaddahegkmgaaGreatMC
import Derived.Laws.MakeOwn
namespace Go.Proofs.YtkaaddahegkmgaaGreat
open Go.ChangeShapes Go.WideShapes Go.ChangeAt Go.RowKit
/-- A reader stays, while its two blocks do. -/
theorem St.keep {w w' : World} {g h : Nat} {l : List UInt8} {e : Int} (r : St w g h l e) (h1 : w'.heap[g]? = w.heap[g]?) (h2 : w'.heap[h]? = w.heap[h]?) : St w' g h l e := by
  have fg : ∀ o, w'.cell? ⟨g, o, none⟩ = w.cell? ⟨g, o, none⟩ := fun o => World.cell?_of_block h1
  have fh : ∀ o, w'.cell? ⟨h, o, none⟩ = w.cell? ⟨h, o, none⟩ := fun o => World.cell?_of_block h2
  have zg : ∀ o, w'.frozen? ⟨g, o, none⟩ = w.frozen? ⟨g, o, none⟩ := fun o => World.frozen?_of_block h1
  rcases r with ⟨h0, p, c, a0, a1, a2, f1, f2, hl, hg, hb⟩ | ⟨h0, hl, a0, a2⟩
  · refine .inl ⟨h0, p, c, (fg 0).trans a0, (fg 1).trans a1, (fg 2).trans a2, (zg 1).trans f1, (zg 2).trans f2, hl, hg, fun hne => ?_⟩
    obtain ⟨o, hp, hcell⟩ := hb hne
    exact ⟨o, hp, fun i x hx => (fh _).trans (hcell i x hx)⟩
  · exact .inr ⟨h0, hl, (fg 0).trans a0, (fg 2).trans a2⟩
theorem St.lt {w : World} {g h : Nat} {l : List UInt8} {e : Int} (r : St w g h l e) : g < w.heap.size := by
  rcases r with ⟨_, p, c, a0, _⟩ | ⟨_, _, a0, _⟩
  · exact World.block_lt_of_cell? w ⟨g, 0, none⟩ a0
  · exact World.block_lt_of_cell? w ⟨g, 0, none⟩ a0
/-- All blocks but g and B are as they were. -/
def K2 (g B : Nat) (w w' : World) : Prop := w'.os = w.os ∧ w'.tape = w.tape ∧ w'.output = w.output ∧ w.heap.size ≤ w'.heap.size ∧ ∀ k, k < w.heap.size → k ≠ g → k ≠ B → w'.heap[k]? = w.heap[k]?
theorem K2.trans {g B : Nat} {a b c : World} (h : K2 g B a b) (k : K2 g B b c) : K2 g B a c :=
  ⟨k.1.trans h.1, k.2.1.trans h.2.1, k.2.2.1.trans h.2.2.1, Nat.le_trans h.2.2.2.1 k.2.2.2.1, fun i hi h1 h2 => (k.2.2.2.2 i (Nat.lt_of_lt_of_le hi h.2.2.2.1) h1 h2).trans (h.2.2.2.2 i hi h1 h2)⟩
theorem K2.of_kb {g B : Nat} {w w' : World} (h : KB g w w') : K2 g B w w' := ⟨h.1, h.2.1, h.2.2.1, h.2.2.2.1, fun k hk h1 _ => h.2.2.2.2 k hk h1⟩
theorem K2.of_kb2 {g B : Nat} {w w' : World} (h : KB B w w') : K2 g B w w' := ⟨h.1, h.2.1, h.2.2.1, h.2.2.2.1, fun k hk _ h1 => h.2.2.2.2 k hk h1⟩
theorem K2.of_below {g B : Nat} {w w' : World} (h : Below w.heap.size w w') : K2 g B w w' := K2.of_kb (KB.of_below h)
theorem K2.refl (g B : Nat) (w : World) : K2 g B w w := K2.of_below (Below.refl _ _)
theorem Bk.k2 {g B : Nat} {w w' : World} {q : Nat} {cs : Array Value} {t : TypeId} (h : Bk w q cs t) (k : K2 g B w w') (h1 : q ≠ g) (h2 : q ≠ B) : Bk w' q cs t := (k.2.2.2.2 q h.lt h1 h2).trans h
theorem K2.put {g B i : Nat} {w w' : World} {v : Value} (h : K2 g B w w') : K2 g B w (w'.setCell ⟨B, i, none⟩ v) :=
  ⟨h.1, h.2.1, h.2.2.1, by simpa [World.setCell] using h.2.2.2.1, fun k hk h1 h2 => (Below.heap_setCell _ _ _ _ h2).trans (h.2.2.2.2 k hk h1 h2)⟩
theorem St.put {g h B i : Nat} {w : World} {l : List UInt8} {e : Int} {v : Value} (r : St w g h l e) (h1 : B ≠ g) (h2 : B ≠ h) : St (w.setCell ⟨B, i, none⟩ v) g h l e :=
  r.keep (Below.heap_setCell _ _ _ _ (fun e => h1 e.symm)) (Below.heap_setCell _ _ _ _ (fun e => h2 e.symm))
set_option maxRecDepth 100000 in
/-- A text as bytes of its own. -/
theorem conv_hb (s : List UInt8) (w : World) (hs : s.length ≤ 9223372036854775807) : ∃ cap w', (convert 9 26 (.string (str s))).run Tryz.prog w = .ok (.slice (some ⟨w.heap.size, 0, none⟩) s.length cap) w' ∧
    HB (fun B => B = w.heap.size) w' (.slice (some ⟨w.heap.size, 0, none⟩) s.length cap) s ∧ Below w.heap.size w w' := by
  have hsz : (str s).size = s.length := by simp [str, ByteArray.size]
  have hd : (str s).data.toList = s := by simp [str]
  obtain ⟨cap, w', h2, hh, hb⟩ := conv_bytes (str s) w
  have h1 := run_bytes_of_string (P := Tryz.prog) w 9 26 5 (str s) Tryz.underlying9 Tryz.underlying26 Tryz.underlying5
  have e := h1.symm.trans h2
  injection e with e1 e2
  have hc : cap = grownCap w (str s).size 0 5 := by injection e1 with _ _ e3; exact e3.symm
  rw [hsz] at h2 hh hc
  rw [hd] at hh
  refine ⟨cap, w', h2, ⟨_, cap, rfl, by rw [hc]; exact grownCap_ge _ _ _ _, by rw [hc]; exact grownCap_le_maxLen _ _ _ _ hs, fun i x hx => ?_⟩, hb⟩
  obtain ⟨p, c, e, _, hcell⟩ := hh
  cases e
  have := hcell _ rfl i x hx
  rw [add_plain] at this
  exact ⟨w.heap.size, 0, rfl, rfl, this⟩
theorem text_small (m : Int) (_hm : m ≤ 9223372036854775807) (h0 : 0 ≤ m) (l : List UInt8) (e : Int) : ((sText m l e).1.length : Int) ≤ m := by
  have hk : (sNum m l e).1 ≤ m := by
    unfold sNum
    split
    · split
      · split
        · simpa using h0
        · simp; omega
      · simpa using h0
    · simpa using h0
  unfold sText
  split
  · split
    · simpa using h0
    · rw [List.length_take]
      have := sNum_nat m l e
      omega
  · simpa using h0
/-- What decode leaves of a row. -/
def DrP (g h B o : Nat) (cs : Array Value) (w : World) (r : Rw × List UInt8 × Int) (x : Ending) (w' : World) : Prop :=
  x = .returned (.tuple #[]) ∧ ∃ v, Bk w' B (((cs.setIfInBounds o (.string r.1.key)).setIfInBounds (o + 1) (.int .i64 r.1.ver)).setIfInBounds (o + 2) v) 47 ∧ HB (fun q => w.heap.size ≤ q) w' v r.1.row ∧ St w' g h r.2.1 r.2.2 ∧ K2 g B w w'
set_option maxHeartbeats 4000000 in
set_option maxRecDepth 100000 in
theorem decRow_calls (g h B o : Nat) (cs : Array Value) (l : List UInt8) (e : Int) (w : World) (st : St w g h l e) (hb : Bk w B cs 47) (h1 : B ≠ g) (h2 : B ≠ h) (hh : h < w.heap.size) (ho : o + 2 < cs.size) :
    Calls Tryz.prog 41 #[.pointer (some ⟨g, 0, none⟩), .pointer (some ⟨B, o, none⟩)] w (DrP g h B o cs w (rdRw l e)) := by
  obtain ⟨q1, hq1⟩ : ∃ q, sText 64 l e = q := ⟨_, rfl⟩
  obtain ⟨q2, hq2⟩ : ∃ q, sNum 2147483648 q1.2.1 q1.2.2 = q := ⟨_, rfl⟩
  obtain ⟨q3, hq3⟩ : ∃ q, sText 524288 q2.2.1 q2.2.2 = q := ⟨_, rfl⟩
  have hlen : q3.1.length ≤ 524288 := by
    have := text_small 524288 (by decide) (by decide) q2.2.1 q2.2.2
    rw [hq3] at this
    omega
  have hrd : rdRw l e = (⟨str q1.1, q2.1, q3.1⟩, q3.2) := by
    unfold rdRw
    dsimp only
    rw [hq1, hq2, hq3]
  rw [hrd]
  have T1 : Hid (Calls Tryz.prog 73 #[.pointer (some ⟨g, 0, none⟩), .int .i64 64] w (Rs w g h (.string (str q1.1)) q1.2.1 q1.2.2)) := by rw [← hq1]; exact text_st w g h l e 64 st
  have T2 : Hid (∀ W, St W g h q1.2.1 q1.2.2 → Calls Tryz.prog 40 #[.pointer (some ⟨g, 0, none⟩), .int .i64 2147483648] W (Rs W g h (.int .i64 q2.1) q2.2.1 q2.2.2)) := fun W s => by rw [← hq2]; exact num_st W g h _ _ _ s
  have T3 : Hid (∀ W, St W g h q2.2.1 q2.2.2 → Calls Tryz.prog 73 #[.pointer (some ⟨g, 0, none⟩), .int .i64 524288] W (Rs W g h (.string (str q3.1)) q3.2.1 q3.2.2)) := fun W s => by rw [← hq3]; exact text_st W g h _ _ _ s
  obtain ⟨s1, l1, e1⟩ := q1
  obtain ⟨n2, l2, e2⟩ := q2
  obtain ⟨s3, l3, e3⟩ := q3
  dsimp only at T1 T2 T3 hlen ⊢
  have HB0 : Hid (Bk w B cs 47) := hb
  have HN : Hid (B ≠ g ∧ B ≠ h ∧ h < w.heap.size ∧ o + 2 < cs.size ∧ B < w.heap.size ∧ s3.length ≤ 524288) := ⟨h1, h2, hh, ho, hb.lt, hlen⟩
  clear hrd hq1 hq2 hq3 st hb h1 h2 hh ho hlen
  go_enter Tryz.func41, Tryz.ntmps41
  go_wp2_with (simp only [ta96])
  refine T1.out.mono ?_
  rintro x w1 ⟨rfl, st1, kb1⟩
  have hb1 : Bk w1 B cs 47 := (kb1.2.2.2.2 B HN.out.2.2.2.2.1 HN.out.1).trans HB0.out
  have HB1 : Hid (Bk w1 B cs 47 ∧ St w1 g h l1 e1 ∧ K2 g B w w1) := ⟨hb1, st1, K2.of_kb kb1⟩
  have c0 : w1.cell? ⟨B, o, none⟩ = some (cs[o]'(by have := HN.out; omega)) := (hb1.cell o).trans (Array.getElem?_eq_getElem _)
  have f0 := hb1.frozen o
  clear hb1 st1 kb1 T1
  go_wp2_with fail
  have hb2 := HB1.out.1.set o (.string (str s1))
  have st2 : St (w1.setCell ⟨B, o, none⟩ (.string (str s1))) g h l1 e1 := HB1.out.2.1.put HN.out.1 HN.out.2.1
  have k2 : K2 g B w (w1.setCell ⟨B, o, none⟩ (.string (str s1))) := HB1.out.2.2.put
  have HB2 : Hid (_ ∧ _ ∧ _) := ⟨hb2, st2, k2⟩
  clear c0 f0 hb2 st2 k2 HB1
  generalize w1.setCell ⟨B, o, none⟩ (.string (str s1)) = w2 at HB2 ⊢
  refine (T2.out w2 HB2.out.2.1).mono ?_
  rintro x w3 ⟨rfl, st3, kb3⟩
  have hb3 : Bk w3 B _ 47 := (kb3.2.2.2.2 B HB2.out.1.lt HN.out.1).trans HB2.out.1
  have HB3 : Hid (Bk w3 B _ 47 ∧ St w3 g h l2 e2 ∧ K2 g B w w3) := ⟨hb3, st3, HB2.out.2.2.trans (K2.of_kb kb3)⟩
  have c0 : w3.cell? ⟨B, o + 1, none⟩ = some ((cs.setIfInBounds o (.string (str s1)))[o + 1]'(by have := HN.out; simp; omega)) := (hb3.cell (o + 1)).trans (Array.getElem?_eq_getElem _)
  have f0 := hb3.frozen (o + 1)
  clear hb3 st3 kb3 T2 HB2
  go_wp2_with fail
  have hb4 := HB3.out.1.set (o + 1) (.int .i64 n2)
  have st4 : St (w3.setCell ⟨B, o + 1, none⟩ (.int .i64 n2)) g h l2 e2 := HB3.out.2.1.put HN.out.1 HN.out.2.1
  have k4 : K2 g B w (w3.setCell ⟨B, o + 1, none⟩ (.int .i64 n2)) := HB3.out.2.2.put
  have HB4 : Hid (_ ∧ _ ∧ _) := ⟨hb4, st4, k4⟩
  clear c0 f0 hb4 st4 k4 HB3
  generalize w3.setCell ⟨B, o + 1, none⟩ (.int .i64 n2) = w4 at HB4 ⊢
  refine (T3.out w4 HB4.out.2.1).mono ?_
  rintro x w5 ⟨rfl, st5, kb5⟩
  obtain ⟨cap, w6, hcv, hv6, hb56⟩ := conv_hb s3 w5 (by have := HN.out; omega)
  have hb5 : Bk w5 B _ 47 := (kb5.2.2.2.2 B HB4.out.1.lt HN.out.1).trans HB4.out.1
  have k5 : K2 g B w w5 := HB4.out.2.2.trans (K2.of_kb kb5)
  have hb6 := hb5.below hb56
  have HB6 : Hid (Bk w6 B _ 47 ∧ St w6 g h l3 e3 ∧ K2 g B w w6) := ⟨hb6, st5.keep (hb56.block g st5.lt) (hb56.block h (by have := HN.out; have := k5.2.2.2.1; omega)), k5.trans (K2.of_below hb56)⟩
  have HV6 : Hid (HB (fun q => q = w5.heap.size) w6 (.slice (some ⟨w5.heap.size, 0, none⟩) s3.length cap) s3) := hv6
  have HZ : Hid (B < w5.heap.size ∧ w.heap.size ≤ w5.heap.size) := ⟨hb5.lt, k5.2.2.2.1⟩
  have c0 : w6.cell? ⟨B, o + 2, none⟩ = some (((cs.setIfInBounds o (.string (str s1))).setIfInBounds (o + 1) (.int .i64 n2))[o + 2]'(by have := HN.out; simp; omega)) := (hb6.cell (o + 2)).trans (Array.getElem?_eq_getElem _)
  have f0 := hb6.frozen (o + 2)
  clear hb5 hb6 st5 kb5 k5 T3 HB4 hv6 hb56
  go_wp2_with fail
  first | go_end0 | refine bodyPost_ret (results_none rfl _ _ _) rfl ?_
  refine ⟨rfl, _, HB6.out.1.set (o + 2) _, ?_, HB6.out.2.1.put HN.out.1 HN.out.2.1, HB6.out.2.2.put⟩
  exact HV6.out.keep fun q hq _ => ⟨Below.heap_setCell _ _ _ _ (fun e => by have := HZ.out; have e2 : q = B := e; omega), by have := HZ.out; omega⟩
end Go.Proofs.YtkaaddahegkmgaaGreat
