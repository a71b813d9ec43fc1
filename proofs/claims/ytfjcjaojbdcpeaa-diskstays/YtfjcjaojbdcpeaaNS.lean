/- The contract of Zones. -/
import Derived.Test.YtfjcjaojbdcpeaaNR
import Derived.Test.YtfjcjaojbdcpeaaShelf
namespace Go.Proofs.Ytfjcjaojbdcpeaa
open Go.ChangeShapes Go.WideShapes Go.ChangeAt Go.RowKit Go.Maps Go.Sort Go.Shelf
theorem sorts_in (m : Nat) : AnyZI.SortsIn Try.prog Try.sortedA_ren Fence.wide m :=
  ⟨fun blk off cap ss W hH hblk hsz => callsIn_wide.2 (AnyM.slices_Sort_int Try.sortA blk off cap ss W hH hblk hsz),
   fun p cap W => callsIn_wide.2 (AnyM.slices_Sort_int_none Try.sortA p cap W)⟩
theorem keys_calls (mb : Option Nat) (W : World) : Calls Try.prog 49 #[.map mb] W fun e w' => e = .returned (.func (.func 55) #[] #[.pointer (some ⟨W.heap.size, 0, none⟩)]) ∧ w' = W.alloc (.cells #[.map mb] 55) :=
  (callsIn_wide (n := 5)).1 (AnyZI.keys_in Try.keysA Fence.wide 5 trivial rfl mb W)
theorem sorted_calls (b n : Nat) (D : DataW Value) (w : World) (hm : Zm w b n D) (hs : Maps.size D ≤ 1000) :
    Calls Try.prog 48 #[.func (.func 55) #[] #[.pointer (some ⟨w.heap.size, 0, none⟩)]] (w.alloc (.cells #[.map (some b)] 55)) fun e w' => ∃ (v : Value) (ss : List Int), e = .returned v ∧ ss.Perm (intKeys D) ∧
      w'.ownsRow (w.alloc (.cells #[.map (some b)] 55)).heap.size 3 1 v ss.length ((ss.mergeSort (fun x y => decide (x ≤ y))).map encZ) ∧ (v = .slice none 0 0 ↔ ss = []) ∧ Below (w.alloc (.cells #[.map (some b)] 55)).heap.size (w.alloc (.cells #[.map (some b)] 55)) w' := by
  have hbl := World.ownsMap.lt hm
  have hseq : SeqGives Fence.wide 2 Try.prog 55 #[.pointer (some ⟨w.heap.size, 0, none⟩)] encZ (fun ss => ss.Perm (intKeys D)) (Maps.size D) (w.alloc (.cells #[.map (some b)] 55)) :=
    AnyZI.keys_gives (ρ := Try.keysA_ren) { Try.keysA with } Fence.wide _ trivial rfl (by omega) w.heap.size b n D _ (by simp) (by simp) (World.ownsMap.alloc hm _)
  have cS := AnyZI.sorted_in Try.sortedA Fence.wide 5 trivial trivial trivial trivial rfl (by omega) (sorts_in _) (enters_of Try.func54 (by kernel_rfl) rfl) 55 #[.pointer (some ⟨w.heap.size, 0, none⟩)] trivial (enters_of Try.func55 (by kernel_rfl) rfl) _ _ (by unfold maxLen; omega) (by omega) _ hseq
  exact (callsIn_wide (n := 5)).1 cS
/-- The numbers of the zones that have bytes, rising. -/
def zonesOf (bs : Int → List UInt8) : List Int := ((List.range 40).map fun i : Nat => (i : Int)).filter fun k => !(bs k).isEmpty
theorem zonesOf_mem (bs : Int → List UInt8) (k : Int) : k ∈ zonesOf bs ↔ (0 ≤ k ∧ k < 40) ∧ bs k ≠ [] := by
  unfold zonesOf
  rw [List.mem_filter]
  constructor
  · rintro ⟨h1, h2⟩
    obtain ⟨i, hi, rfl⟩ := List.mem_map.1 h1
    rw [List.mem_range] at hi
    refine ⟨by omega, fun e => ?_⟩
    rw [e] at h2
    cases h2
  · rintro ⟨h1, h2⟩
    refine ⟨List.mem_map.2 ⟨k.toNat, List.mem_range.2 (by omega), by omega⟩, ?_⟩
    cases h : bs k with
    | nil => exact absurd h h2
    | cons => rfl
theorem zonesOf_lt (bs : Int → List UInt8) : (zonesOf bs).Pairwise (· < ·) := by
  unfold zonesOf
  refine List.Pairwise.filter _ (List.pairwise_map.2 ?_)
  exact List.pairwise_lt_range.imp (fun h => by omega)
theorem zonesOf_len (bs : Int → List UInt8) : (zonesOf bs).length ≤ 40 := by
  unfold zonesOf
  refine Nat.le_trans (List.length_filter_le _ _) ?_
  simp
theorem zm_ints {w : World} {b n : Nat} {D : DataW Value} (h : Zm w b n D) : ∃ es, D = .map es ∧ es.Pairwise (fun p q => p.1 ≠ q.1) ∧ ∀ p ∈ es, ∃ x, p.1 = .int .i64 x := by
  obtain ⟨es, he, hp, _⟩ := World.ownsMap.entries h intKeyed
  refine ⟨es, he, hp, ?_⟩
  obtain ⟨es0, clock, _, F, _, hD⟩ := h
  rw [he] at hD
  injection hD with hD
  subst hD
  intro p hpm
  obtain ⟨x, hx, rfl⟩ := List.mem_map.1 (mem_sorted.1 hpm)
  obtain ⟨y, hy⟩ := F.reads x hx
  obtain ⟨z, _, hz, _⟩ := Maps.keyOf_int_inv Try.underlying3 (Go.WideElems.rd_key hy)
  exact ⟨z, by rw [Go.WideElems.rg_of hy]; exact hz⟩
theorem Dz.perm {lo g b n : Nat} {w : World} {D : DataW Value} {av : Int → Option Addr} {cv : Int → Nat} {bs : Int → List UInt8} {ss : Int → Int} (h : Dz lo w g b n D av cv bs ss) : (zonesOf bs).Perm (intKeys D) := by
  obtain ⟨es, rfl, hp, hk⟩ := zm_ints h.zm
  refine perm_intKeys hp hk ((zonesOf_lt bs).imp (fun h e => by omega)) (fun x => ?_)
  rw [zonesOf_mem, h.has]
  exact ⟨fun h1 => h1.2, fun h1 => ⟨h.ints x h1, h1⟩⟩
theorem Dz.size {lo g b n : Nat} {w : World} {D : DataW Value} {av : Int → Option Addr} {cv : Int → Nat} {bs : Int → List UInt8} {ss : Int → Int} (h : Dz lo w g b n D av cv bs ss) : Maps.size D ≤ 40 := by
  have h1 := h.perm.length_eq
  have h2 := zonesOf_len bs
  obtain ⟨es, rfl, _, _⟩ := zm_ints h.zm
  have h3 : (intKeys (.map es)).length = es.length := by simp [intKeys]
  have h4 : Maps.size (.map es) = es.length := rfl
  omega
theorem sorted_zones {bs : Int → List UInt8} {l : List Int} (h : l.Perm (zonesOf bs)) : l.mergeSort (fun x y => decide (x ≤ y)) = zonesOf bs := by
  have tr : ∀ a b c : Int, (fun x y => decide (x ≤ y)) a b = true → (fun x y => decide (x ≤ y)) b c = true → (fun x y => decide (x ≤ y)) a c = true := fun a b c h1 h2 => by
    simp only [decide_eq_true_eq] at *
    exact Int.le_trans h1 h2
  have tt : ∀ a b : Int, ((fun x y => decide (x ≤ y)) a b || (fun x y => decide (x ≤ y)) b a) = true := fun a b => by
    simp only [Bool.or_eq_true, decide_eq_true_eq]
    exact Int.le_total a b
  refine List.Perm.eq_of_pairwise (le := fun a b : Int => decide (a ≤ b) = true) (fun a b _ _ h1 h2 => ?_) (List.pairwise_mergeSort tr tt l) ((zonesOf_lt bs).imp (fun h => by simp only [decide_eq_true_eq]; omega)) ((List.mergeSort_perm l _).trans h)
  simp only [decide_eq_true_eq] at h1 h2
  exact Int.le_antisymm h1 h2
/-- A list of numbers in memory of its own, from lo on. -/
def ZL (lo : Nat) (w : World) (v : Value) (zs : List Int) : Prop :=
  (v = .slice none 0 0 ∧ zs = []) ∨ ∃ B c, v = .slice (some ⟨B, 0, none⟩) zs.length c ∧ zs.length ≤ c ∧ lo ≤ B ∧ B < w.heap.size ∧ Ih w B zs ∧ ∀ o, w.frozen? ⟨B, o, none⟩ = false
set_option maxRecDepth 100000 in
theorem zones_calls (lo g N : Nat) (room fuse : Int) (dead : Bool) (bs : Int → List UInt8) (ss : Int → Int) (w : World) (h : Dk lo w g room fuse dead N bs ss) :
    Calls Try.prog 25 #[.pointer (some ⟨g, 0, none⟩)] w fun e w' => (∃ v, e = .returned v ∧ ZL w.heap.size w' v (zonesOf bs)) ∧ Below w.heap.size w w' := by
  obtain ⟨b, n, D, av, cv, hn, hk, hd⟩ := h
  have HM : Hid (Calls Try.prog 35 #[.pointer (some ⟨g, 0, none⟩)] w _) := made_calls g b _ _ _ w hk
  have HK : Hid (∀ W, _) := fun W => keys_calls (some b) W
  have HS : Hid (Calls Try.prog 48 #[.func (.func 55) #[] #[.pointer (some ⟨w.heap.size, 0, none⟩)]] (w.alloc (.cells #[.map (some b)] 55)) _) := sorted_calls b n D w hd.zm (by have := hd.size; omega)
  have HP : Hid ((intKeys D).Perm (zonesOf bs)) := hd.perm.symm
  have x3 : w.cell? ⟨g, 3, none⟩ = some (.map (some b)) := hk.cell 3
  clear hk hd hn
  go_enter Try.func25, Try.ntmps25
  go_wp2_with fail
  refine HM.out.mono ?_
  rintro e w1 ⟨rfl, hw⟩
  have hw' := hw.symm
  subst hw'
  clear hw HM
  go_wp2_with fail
  refine (HK.out _).mono ?_
  rintro e w1 ⟨rfl, hw⟩
  subst hw
  clear HK
  go_wp2_with fail
  refine HS.out.mono ?_
  rintro e w2 ⟨v, l, rfl, hp, ho, _, hb⟩
  have HB : Hid (Below w.heap.size w w2) := bel2 (bel1 _ _) hb
  have HZ : Hid (ZL w.heap.size w2 v (zonesOf bs)) := by
    have hps := hp.trans HP.out
    rw [sorted_zones hps, hps.length_eq] at ho
    have hz : (w.alloc (.cells #[.map (some b)] 55)).heap.size = w.heap.size + 1 := by simp
    have ho' := ho
    obtain ⟨_, ⟨he, h0⟩ | ⟨B, cap, cur, he, hB, hg, hle, _, hcs, ht⟩⟩ := ho
    · exact .inl ⟨he, by simpa using h0⟩
    · refine .inr ⟨B, cap, he, hle, by omega, ?_, fun i z hz' => ?_, fun o => ?_⟩
      · exact (World.ownsRow.lt ho' B (by rw [he]; rfl)).2
      · have := World.ownsRow.cells (g := B) ho' (by rw [he]; rfl) i (encZ z) (by rw [List.getElem?_map, hz']; rfl)
        rw [add_plain, Nat.zero_add] at this
        exact this
      · exact Bk.frozen (cs := cur) (t := 3) hg o
  clear hp ho hb HS HP
  go_wp2_with fail
  go_ret
  exact ⟨⟨v, rfl, HZ.out⟩, HB.out⟩
end Go.Proofs.Ytfjcjaojbdcpeaa
