/- The contract of unsure. -/
import Derived.Test.YtfjcjaojbdcpeaaNS
namespace Go.Proofs.Ytfjcjaojbdcpeaa
open Go.ChangeShapes Go.WideShapes Go.ChangeAt Go.RowKit Go.Maps
set_option maxRecDepth 100000 in
theorem index_nil (fv : Value) (w : World) : Calls Try.prog 56 #[.slice none 0 0, fv] w fun e w' => e = .returned (.int .i64 (-1)) ∧ w' = w := by
  go_enter Try.func56, Try.ntmps56
  go_wp2_with fail
  go_loopw [5, 8] (fun _ i wr => i = .int .i64 0 ∧ Hid (wr = w)) (fun _ _ _ => 0)
  case atStart => exact ⟨rfl, rfl⟩
  case round =>
    obtain ⟨rfl, HW⟩ := hrel
    go_wp2_with fail
    go_ret
    exact ⟨rfl, HW.out⟩
set_option maxRecDepth 100000 in
theorem delete_nil (fv : Value) (w : World) : Calls Try.prog 51 #[.slice none 0 0, fv] w fun e w' => e = .returned (.slice none 0 0) ∧ w' = w := by
  have HX : Hid (Calls Try.prog 56 #[.slice none 0 0, fv] w _) := index_nil fv w
  go_enter Try.func51, Try.ntmps51
  go_wp2_with fail
  refine HX.out.mono ?_
  rintro e w1 ⟨rfl, hw⟩
  have hw' := hw.symm
  subst hw'
  clear hw HX
  go_wp2_with fail
  go_ret
  exact ⟨rfl, rfl⟩
theorem zone_wf {k : Int} (h : 0 ≤ k ∧ k < 40) : (Lit.int .i64 k).wf = true := by simp [Lit.wf, IntKind.min, IntKind.max, IntKind.signed, IntKind.bits]; omega
/-- A list of numbers, to be read, from lo on. -/
def ZV (lo : Nat) (w : World) (v : Value) (zs : List Int) : Prop :=
  (v = .slice none 0 0 ∧ zs = []) ∨ ∃ B c, v = .slice (some ⟨B, 0, none⟩) zs.length c ∧ lo ≤ B ∧ Ih w B zs
/-- The numbers of the zones whose bytes are not all sure, rising. -/
def unsureOf (bs : Int → List UInt8) (ss : Int → Int) : List Int := left (fun k => ss k == ((bs k).length : Int)) (zonesOf bs)
set_option maxHeartbeats 1000000 in
set_option maxRecDepth 100000 in
theorem unsure_calls (lo g N : Nat) (room fuse : Int) (dead : Bool) (bs : Int → List UInt8) (ss : Int → Int) (w : World) (h : Dk lo w g room fuse dead N bs ss) :
    Calls Try.prog 44 #[.pointer (some ⟨g, 0, none⟩)] w fun e w' => (∃ v, e = .returned v ∧ ZV w.heap.size w' v (unsureOf bs ss)) ∧ Below w.heap.size w w' := by
  have HZ : Hid (∀ W, Below w.heap.size w W → Calls Try.prog 25 #[.pointer (some ⟨g, 0, none⟩)] W _) := fun W hB => zones_calls lo g N room fuse dead bs ss W (h.below hB)
  have hb0 : Below w.heap.size w (w.alloc (.cells #[.pointer (some ⟨g, 0, none⟩)] 23)) := bel1 _ _
  have hsz : (w.alloc (.cells #[.pointer (some ⟨g, 0, none⟩)] 23)).heap.size = w.heap.size + 1 := by simp
  have hq0 : (w.alloc (.cells #[.pointer (some ⟨g, 0, none⟩)] 23)).cell? ⟨w.heap.size, 0, none⟩ = some (.pointer (some ⟨g, 0, none⟩)) := (Bk.new w #[.pointer (some ⟨g, 0, none⟩)] 23).cell 0
  have HD : Hid (∀ (w1 : World) (v : Value), Below (w.alloc (.cells #[.pointer (some ⟨g, 0, none⟩)] 23)).heap.size (w.alloc (.cells #[.pointer (some ⟨g, 0, none⟩)] 23)) w1 → ZL (w.alloc (.cells #[.pointer (some ⟨g, 0, none⟩)] 23)).heap.size w1 v (zonesOf bs) →
      Calls Try.prog 51 #[v, .func (.func 52) #[] #[.pointer (some ⟨w.heap.size, 0, none⟩)]] w1 fun e w' => (∃ v, e = .returned v ∧ ZV w.heap.size w' v (unsureOf bs ss)) ∧ Below w.heap.size w w') := fun w1 v hB hz => by
    have hB1 : Below w.heap.size w w1 := bel2 hb0 hB
    rcases hz with ⟨rfl, hz0⟩ | ⟨B, c, rfl, hle, hlo, hlt, hI, hfr⟩
    · refine (delete_nil _ w1).mono fun e w' ⟨h1, h2⟩ => ⟨⟨_, h1, .inl ⟨rfl, ?_⟩⟩, by rw [h2]; exact hB1⟩
      unfold unsureOf
      rw [hz0]
      rfl
    · obtain ⟨b, n, D, av, cv, hn, hk, hd⟩ := h
      have hgl := hk.lt
      have hbl := World.ownsMap.lt hd.zm
      rw [hsz] at hlo
      refine (delete_calls (fun k => ss k == ((bs k).length : Int)) (zonesOf bs) B _ c rfl hle (by have := zonesOf_len bs; omega) _ w1 hI hfr hlt (fun W hW z hzm => ?_)).mono fun e w' ⟨h1, h2, h3⟩ => ⟨⟨_, h1, .inr ⟨B, c, rfl, by omega, h2⟩⟩, hB1.trans (h3.below (by omega) hB1.size)⟩
      exact sure_calls g b n w.heap.size _ _ _ D (av z) (bs z).length (cv z) (ss z) z (zone_wf ((zonesOf_mem bs z).1 hzm).1) W ((hk.below hB1).kb hW (by omega)) ((hd.below hB1).zm.kb hW (by omega)) (hd.hv z) (hW.cell (cell_below hq0 hB) (show w.heap.size ≠ B by omega))
  clear h hb0 hsz hq0
  go_enter Try.func44, Try.ntmps44
  go_wp2_with fail
  refine Calls.mono (HZ.out _ ?_) ?_
  · exact bel1 _ _
  rintro e w1 ⟨⟨v, rfl, hz⟩, hb⟩
  have HC := HD.out w1 v hb hz
  have HC' : Hid (Calls Try.prog 51 #[v, .func (.func 52) #[] #[.pointer (some ⟨w.heap.size, 0, none⟩)]] w1 _) := HC
  clear hz hb HC HD HZ
  go_wp2_with fail
  refine HC'.out.mono ?_
  rintro e w2 ⟨⟨v2, rfl, hz⟩, hb⟩
  have H1 : Hid (ZV w.heap.size w2 v2 (unsureOf bs ss)) := hz
  have H2 : Hid (Below w.heap.size w w2) := hb
  clear hz hb
  go_wp2_with fail
  go_ret
  exact ⟨⟨v2, rfl, H1.out⟩, H2.out⟩
end Go.Proofs.Ytfjcjaojbdcpeaa
