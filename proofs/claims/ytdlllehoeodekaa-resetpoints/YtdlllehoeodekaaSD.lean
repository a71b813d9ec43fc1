/- The contracts of done and awake; the walk of ResetPoints. -/
import Derived.Test.YtdlllehoeodekaaSC
namespace Go.Proofs.Ytdlllehoeodekaa
open Go.ChangeAt Go.ChangeShapes Go.Deep Go.RowKit Go.WideShapes
def dnR : List Rw := [⟨1, 0, 0, 0, ⟨#[116]⟩, 0, 0, 0, ⟨#[]⟩, none, 0, 0, 0, 0, 0⟩, ⟨2, 0, 1, 0, ⟨#[]⟩, 0, 0, 0, ⟨#[]⟩, none, 0, 0, 0, 0, 0⟩, ⟨3, 0, 0, 0, ⟨#[]⟩, 0, 0, 0, ⟨#[]⟩, none, 0, 0, 0, 0, 0⟩, ⟨4, 0, 0, 0, ⟨#[]⟩, 0, 0, 0, ⟨#[]⟩, none, 0, 0, 0, 0, 0⟩, ⟨7, 0, 0, 0, ⟨#[115]⟩, 0, 0, 0, ⟨#[]⟩, none, 0, 0, 0, 0, 0⟩]
def dnE : List Ev := [⟨1, 0, 0, 0, ⟨#[116]⟩, zT, 0, 0, 0⟩, ⟨2, 0, 1, 0, ⟨#[]⟩, zT, 0, 0, 0⟩, ⟨3, 0, 0, 0, ⟨#[]⟩, zT, 0, 0, 0⟩, ⟨4, 0, 0, 0, ⟨#[]⟩, zT, 0, 0, 0⟩, ⟨7, 0, 0, 0, ⟨#[115]⟩, zT, 0, 0, 0⟩]
theorem dn_row (w : World) : RowE (w.alloc (.cells #[.int .i64 1, .int .i64 0, .int .i64 0, .int .i64 0, .string ⟨#[116]⟩, .int .i64 0, .int .i64 0, .int .u64 0, .string ⟨#[]⟩, .slice none 0 0, .int .i64 0, .int .u64 0, .int .i64 0, .int .i64 2, .int .i64 0, .int .i64 1, .int .i64 0, .string ⟨#[]⟩, .int .i64 0, .int .i64 0, .int .u64 0, .string ⟨#[]⟩, .slice none 0 0, .int .i64 0, .int .u64 0, .int .i64 0, .int .i64 3, .int .i64 0, .int .i64 0, .int .i64 0, .string ⟨#[]⟩, .int .i64 0, .int .i64 0, .int .u64 0, .string ⟨#[]⟩, .slice none 0 0, .int .i64 0, .int .u64 0, .int .i64 0, .int .i64 4, .int .i64 0, .int .i64 0, .int .i64 0, .string ⟨#[]⟩, .int .i64 0, .int .i64 0, .int .u64 0, .string ⟨#[]⟩, .slice none 0 0, .int .i64 0, .int .u64 0, .int .i64 0, .int .i64 7, .int .i64 0, .int .i64 0, .int .i64 0, .string ⟨#[115]⟩, .int .i64 0, .int .i64 0, .int .u64 0, .string ⟨#[]⟩, .slice none 0 0, .int .i64 0, .int .u64 0, .int .i64 0] 38)) (some ⟨w.heap.size, 0, none⟩) dnR := fun i r hr => by
  have e : (w.alloc (.cells #[.int .i64 1, .int .i64 0, .int .i64 0, .int .i64 0, .string ⟨#[116]⟩, .int .i64 0, .int .i64 0, .int .u64 0, .string ⟨#[]⟩, .slice none 0 0, .int .i64 0, .int .u64 0, .int .i64 0, .int .i64 2, .int .i64 0, .int .i64 1, .int .i64 0, .string ⟨#[]⟩, .int .i64 0, .int .i64 0, .int .u64 0, .string ⟨#[]⟩, .slice none 0 0, .int .i64 0, .int .u64 0, .int .i64 0, .int .i64 3, .int .i64 0, .int .i64 0, .int .i64 0, .string ⟨#[]⟩, .int .i64 0, .int .i64 0, .int .u64 0, .string ⟨#[]⟩, .slice none 0 0, .int .i64 0, .int .u64 0, .int .i64 0, .int .i64 4, .int .i64 0, .int .i64 0, .int .i64 0, .string ⟨#[]⟩, .int .i64 0, .int .i64 0, .int .u64 0, .string ⟨#[]⟩, .slice none 0 0, .int .i64 0, .int .u64 0, .int .i64 0, .int .i64 7, .int .i64 0, .int .i64 0, .int .i64 0, .string ⟨#[115]⟩, .int .i64 0, .int .i64 0, .int .u64 0, .string ⟨#[]⟩, .slice none 0 0, .int .i64 0, .int .u64 0, .int .i64 0] 38)).heap[w.heap.size]? = some (.cells #[.int .i64 1, .int .i64 0, .int .i64 0, .int .i64 0, .string ⟨#[116]⟩, .int .i64 0, .int .i64 0, .int .u64 0, .string ⟨#[]⟩, .slice none 0 0, .int .i64 0, .int .u64 0, .int .i64 0, .int .i64 2, .int .i64 0, .int .i64 1, .int .i64 0, .string ⟨#[]⟩, .int .i64 0, .int .i64 0, .int .u64 0, .string ⟨#[]⟩, .slice none 0 0, .int .i64 0, .int .u64 0, .int .i64 0, .int .i64 3, .int .i64 0, .int .i64 0, .int .i64 0, .string ⟨#[]⟩, .int .i64 0, .int .i64 0, .int .u64 0, .string ⟨#[]⟩, .slice none 0 0, .int .i64 0, .int .u64 0, .int .i64 0, .int .i64 4, .int .i64 0, .int .i64 0, .int .i64 0, .string ⟨#[]⟩, .int .i64 0, .int .i64 0, .int .u64 0, .string ⟨#[]⟩, .slice none 0 0, .int .i64 0, .int .u64 0, .int .i64 0, .int .i64 7, .int .i64 0, .int .i64 0, .int .i64 0, .string ⟨#[115]⟩, .int .i64 0, .int .i64 0, .int .u64 0, .string ⟨#[]⟩, .slice none 0 0, .int .i64 0, .int .u64 0, .int .i64 0] 38 (0, 0)) := World.alloc_heap_new w _
  match i, hr with
  | 0, hr =>
    cases hr
    refine ⟨_, 0, rfl, ?_⟩
    refine ⟨?_, ?_, ?_, ?_, ?_, ?_, ?_, ?_, ?_, ?_, ?_, ?_, ?_⟩ <;> (rw [cellAt40 e]; rfl)
  | 1, hr =>
    cases hr
    refine ⟨_, 0, rfl, ?_⟩
    refine ⟨?_, ?_, ?_, ?_, ?_, ?_, ?_, ?_, ?_, ?_, ?_, ?_, ?_⟩ <;> (rw [cellAt40 e]; rfl)
  | 2, hr =>
    cases hr
    refine ⟨_, 0, rfl, ?_⟩
    refine ⟨?_, ?_, ?_, ?_, ?_, ?_, ?_, ?_, ?_, ?_, ?_, ?_, ?_⟩ <;> (rw [cellAt40 e]; rfl)
  | 3, hr =>
    cases hr
    refine ⟨_, 0, rfl, ?_⟩
    refine ⟨?_, ?_, ?_, ?_, ?_, ?_, ?_, ?_, ?_, ?_, ?_, ?_, ?_⟩ <;> (rw [cellAt40 e]; rfl)
  | 4, hr =>
    cases hr
    refine ⟨_, 0, rfl, ?_⟩
    refine ⟨?_, ?_, ?_, ?_, ?_, ?_, ?_, ?_, ?_, ?_, ?_, ?_, ?_⟩ <;> (rw [cellAt40 e]; rfl)
  | i + 5, hr => simp [dnR] at hr
theorem dn_hh (w : World) : Hh (w.alloc (.cells #[.int .i64 1, .int .i64 0, .int .i64 0, .int .i64 0, .string ⟨#[116]⟩, .int .i64 0, .int .i64 0, .int .u64 0, .string ⟨#[]⟩, .slice none 0 0, .int .i64 0, .int .u64 0, .int .i64 0, .int .i64 2, .int .i64 0, .int .i64 1, .int .i64 0, .string ⟨#[]⟩, .int .i64 0, .int .i64 0, .int .u64 0, .string ⟨#[]⟩, .slice none 0 0, .int .i64 0, .int .u64 0, .int .i64 0, .int .i64 3, .int .i64 0, .int .i64 0, .int .i64 0, .string ⟨#[]⟩, .int .i64 0, .int .i64 0, .int .u64 0, .string ⟨#[]⟩, .slice none 0 0, .int .i64 0, .int .u64 0, .int .i64 0, .int .i64 4, .int .i64 0, .int .i64 0, .int .i64 0, .string ⟨#[]⟩, .int .i64 0, .int .i64 0, .int .u64 0, .string ⟨#[]⟩, .slice none 0 0, .int .i64 0, .int .u64 0, .int .i64 0, .int .i64 7, .int .i64 0, .int .i64 0, .int .i64 0, .string ⟨#[115]⟩, .int .i64 0, .int .i64 0, .int .u64 0, .string ⟨#[]⟩, .slice none 0 0, .int .i64 0, .int .u64 0, .int .i64 0] 38)) 0 (some ⟨w.heap.size, 0, none⟩) dnR dnE := ⟨rfl, dn_row w, fun i => by
  match i with
  | 0 => exact ⟨zT, rfl, zT_is _ 0⟩
  | 1 => exact ⟨zT, rfl, zT_is _ 0⟩
  | 2 => exact ⟨zT, rfl, zT_is _ 0⟩
  | 3 => exact ⟨zT, rfl, zT_is _ 0⟩
  | 4 => exact ⟨zT, rfl, zT_is _ 0⟩
  | i + 5 => exact zr_is _ 0, fun i => by
  match i with
  | 0 => exact ze_small 0
  | 1 => exact ze_small 0
  | 2 => exact ze_small 0
  | 3 => exact ze_small 0
  | 4 => exact ze_small 0
  | i + 5 => exact ze_small 0⟩
theorem dn_aft : aft dnE 4 7 (List.range 5) = [⟨7, 0, 0, 0, ⟨#[115]⟩, zT, 0, 0, 0⟩] := by kernel_rfl
theorem dn_fnd : fnd dnR 4 (List.range 5) = [4] := by decide +kernel
set_option maxHeartbeats 1000000 in
theorem done_calls (w : World) : Calls Try.prog 11 #[] w fun e w' => e = .returned (.slice (some ⟨w.heap.size, 0, none⟩) 5 5) ∧ Hh w' 0 (some ⟨w.heap.size, 0, none⟩) dnR dnE ∧ Below w.heap.size w w' := by
  have HH : Hid (Hh (w.alloc (.cells #[.int .i64 1, .int .i64 0, .int .i64 0, .int .i64 0, .string ⟨#[116]⟩, .int .i64 0, .int .i64 0, .int .u64 0, .string ⟨#[]⟩, .slice none 0 0, .int .i64 0, .int .u64 0, .int .i64 0, .int .i64 2, .int .i64 0, .int .i64 1, .int .i64 0, .string ⟨#[]⟩, .int .i64 0, .int .i64 0, .int .u64 0, .string ⟨#[]⟩, .slice none 0 0, .int .i64 0, .int .u64 0, .int .i64 0, .int .i64 3, .int .i64 0, .int .i64 0, .int .i64 0, .string ⟨#[]⟩, .int .i64 0, .int .i64 0, .int .u64 0, .string ⟨#[]⟩, .slice none 0 0, .int .i64 0, .int .u64 0, .int .i64 0, .int .i64 4, .int .i64 0, .int .i64 0, .int .i64 0, .string ⟨#[]⟩, .int .i64 0, .int .i64 0, .int .u64 0, .string ⟨#[]⟩, .slice none 0 0, .int .i64 0, .int .u64 0, .int .i64 0, .int .i64 7, .int .i64 0, .int .i64 0, .int .i64 0, .string ⟨#[115]⟩, .int .i64 0, .int .i64 0, .int .u64 0, .string ⟨#[]⟩, .slice none 0 0, .int .i64 0, .int .u64 0, .int .i64 0] 38)) 0 (some ⟨w.heap.size, 0, none⟩) dnR dnE) := dn_hh w
  go_enter Try.func11, Try.ntmps11
  go_wp2_with fail
  go_ret
  exact ⟨rfl, HH.out, bel1 _ _⟩
theorem four_ir (w : World) : Ir (w.alloc (.cells #[.int .i64 4] 3)) (.slice (some ⟨w.heap.size, 0, none⟩) 1 1) [4] := ⟨_, 1, rfl, fun i z hz => by
  match i, hz with
  | 0, hz => cases hz; exact ⟨_, 0, rfl, (Boxed.new w 3 (.int .i64 4)).cell⟩
  | i + 1, hz => simp at hz⟩
theorem isE_t {w : World} {N : Nat} {r : Rw} {y : Ev} (h : IsE w N r y) : r.t = y.t := by
  obtain ⟨tv, rfl, _⟩ := h
  rfl
/-- What awake reads of the three events. -/
def Aw (w : World) (B o : Nat) : Prop := w.cell? ⟨B, o, none⟩ = some (.int .i64 5) ∧ w.cell? ⟨B, o + 13, none⟩ = some (.int .i64 7) ∧ w.cell? ⟨B, o + 13 + 1, none⟩ = some (.int .i64 9) ∧ w.cell? ⟨B, o + 26, none⟩ = some (.int .i64 2)
theorem Aw.below {w w' : World} {B o : Nat} (h : Aw w B o) (hb : Below w.heap.size w w') : Aw w' B o := ⟨cellB h.1 hb, cellB h.2.1 hb, cellB h.2.2.1 hb, cellB h.2.2.2 hb⟩
theorem aw_of {lo N : Nat} {w0 w : World} {v : Value} {y : Ev} (h : Ga lo N w0 w v (agn [y] 1 9)) (hb : Below w0.heap.size w0 w) : ∃ B o c, v = .slice (some ⟨B, o, none⟩) 3 c ∧ Aw w B o := by
  obtain ⟨a, c, rs, rfl, hl, hr, hi⟩ := h.rows hb
  have hl3 : rs.length = 3 := hl
  obtain ⟨r0, h0⟩ : ∃ r, rs[0]? = some r := ⟨_, List.getElem?_eq_getElem (by omega)⟩
  obtain ⟨r1, h1⟩ : ∃ r, rs[1]? = some r := ⟨_, List.getElem?_eq_getElem (by omega)⟩
  obtain ⟨r2, h2⟩ : ∃ r, rs[2]? = some r := ⟨_, List.getElem?_eq_getElem (by omega)⟩
  have i0 := hi 0
  have i1 := hi 1
  have i2 := hi 2
  rw [rx_some h0] at i0
  rw [rx_some h1] at i1
  rw [rx_some h2] at i2
  have k0 : r0.k = 5 := isE_k i0
  have k1 : r1.k = 7 := isE_k i1
  have t1 : r1.t = 9 := isE_t i1
  have k2 : r2.k = 2 := isE_k i2
  obtain ⟨B, o, rfl, a0⟩ := hr 0 r0 h0
  obtain ⟨B1, o1, e1, a1⟩ := hr 1 r1 h1
  obtain ⟨B2, o2, e2, a2⟩ := hr 2 r2 h2
  cases e1
  cases e2
  refine ⟨B, o, c, rfl, ?_, ?_, ?_, ?_⟩
  · have := a0.1
    rw [k0] at this
    exact this
  · have := a1.1
    rw [k1] at this
    exact this
  · have := a1.2.1
    rw [t1] at this
    exact this
  · have := a2.1
    rw [k2] at this
    exact this
set_option maxHeartbeats 4000000 in
set_option maxRecDepth 100000 in
theorem awake_calls (w : World) : Calls Try.prog 4 #[] w fun e w' => e = .returned (.bool true) ∧ Below w.heap.size w w' := by
  have K1 : Hid (∀ W, Calls Try.prog 11 #[] W _) := fun W => done_calls W
  go_enter Try.func4, Try.ntmps4
  go_wp2_with fail
  refine (K1.out w).mono ?_
  rintro e w1 ⟨rfl, hh, hb⟩
  have KA : Hid (Calls Try.prog 9 #[.slice (some ⟨w.heap.size, 0, none⟩) 5 5, .int .i64 4, .int .i64 1, .int .i64 9] w1 _) := again_calls (some ⟨w.heap.size, 0, none⟩) 5 0 dnR dnE 5 rfl (by decide) 4 1 9 w1 hh
  rw [dn_aft] at KA
  have HB1 : Hid (Below w.heap.size w w1) := hb
  clear hh hb
  go_wp2_with fail
  refine KA.out.mono ?_
  rintro e w2 ⟨v, w2', rfl, hg, hb', hb⟩
  obtain ⟨B, o, c, rfl, haw⟩ := aw_of hg hb'
  have HA : Hid (Aw w2 B o) := haw
  have HB2 : Hid (Below w.heap.size w w2) := bel2 HB1.out hb
  clear hg hb' hb haw KA
  go_wp2_with fail
  refine (K1.out w2).mono ?_
  rintro e w3 ⟨rfl, hh, hb⟩
  have KP : Hid (Calls Try.prog 6 #[.slice (some ⟨w2.heap.size, 0, none⟩) 5 5] w3 _) := points_calls (some ⟨w2.heap.size, 0, none⟩) 5 dnR 5 rfl (by decide) w3 hh.row
  rw [dn_fnd] at KP
  have HA3 : Hid (Aw w3 B o) := HA.out.below hb
  have HB3 : Hid (Below w.heap.size w w3) := bel2 HB2.out hb
  clear hh hb HA K1
  go_wp2_with fail
  refine KP.out.mono ?_
  rintro e w4 ⟨v4, rfl, hir, hb⟩
  have HE : Hid (Calls Try.prog 5 #[v4, .slice (some ⟨w4.heap.size, 0, none⟩) 1 1] (w4.alloc (.cells #[.int .i64 4] 3)) _) := iequal_calls v4 _ [4] _ (hir.below (bel1 _ _)) (four_ir w4) (by decide)
  have HA4 : Hid (Aw (w4.alloc (.cells #[.int .i64 4] 3)) B o) := (HA3.out.below hb).below (bel1 _ _)
  have HB4 : Hid (Below w.heap.size w (w4.alloc (.cells #[.int .i64 4] 3))) := bel2 (bel2 HB3.out hb) (bel1 _ _)
  clear hir hb HA3 KP
  go_wp2_with fail
  refine HE.out.mono ?_
  rintro e w5 ⟨rfl, hb⟩
  obtain ⟨q0, q1, q2, q3⟩ := HA4.out.below hb
  have HB5 : Hid (Below w.heap.size w w5) := bel2 HB4.out hb
  clear hb HE HA4 HB4
  go_wp2_with fail
  go_ret
  exact ⟨rfl, HB5.out⟩
set_option maxHeartbeats 4000000 in
set_option maxRecDepth 100000 in
theorem points_walk (a : Option Addr) (c NN : Nat) (hs : List Rw) (ys : List Ev) (N : Nat) (hN : hs.length = N) (hl : N ≤ 200) (point run t : Int) (w : World) (hH : Hh w NN a hs ys) :
    Calls Try.prog 3 #[.slice a N c, .int .i64 point, .int .i64 run, .int .i64 t] w fun e w' => e = .returned (.bool true) ∧ Below w.heap.size w w' := by
  have hfd : decide ((200 : Int) < (N : Int)) = false := decide_eq_false (by omega)
  have hfn : decide (200 < N) = false := decide_eq_false (by omega)
  have K1 : Hid (∀ W, Below w.heap.size w W → Calls Try.prog 6 #[.slice a N c] W _) := fun W hW => points_calls a c hs N hN hl W (hH.row.below hW)
  have K2 : Hid (∀ W, Below w.heap.size w W → Calls Try.prog 7 #[.slice a N c] W _) := fun W hW => rpoints_calls a c hs N hN hl W (hH.row.below hW)
  have K3 : Hid (∀ W, Below w.heap.size w W → Calls Try.prog 9 #[.slice a N c, .int .i64 point, .int .i64 run, .int .i64 t] W _) := fun W hW => again_calls a c NN hs ys N hN hl point run t W (hH.below hW)
  have K4 : Hid (∀ W, Below w.heap.size w W → Calls Try.prog 10 #[.slice a N c, .int .i64 point, .int .i64 run, .int .i64 t] W _) := fun W hW => ragain_calls a c NN hs ys N hN hl point run t W (hH.below hW)
  have hal := aft_len ys point 7 (List.range N)
  rw [List.length_range] at hal
  have hfl := fnd_len hs 4 (List.range N)
  rw [List.length_range] at hfl
  have hgl := agn_len (aft ys point 7 (List.range N)) run t
  have HL : Hid ((fnd hs 4 (List.range N)).length ≤ 200 ∧ (agn (aft ys point 7 (List.range N)) run t).length ≤ 202) := ⟨by omega, by omega⟩
  generalize agn (aft ys point 7 (List.range N)) run t = fz at K3 K4 HL
  generalize fnd hs 4 (List.range N) = ns at K1 K2 HL
  clear hal hfl hgl hN hl hH
  go_enter Try.func3, Try.ntmps3
  go_wp2_with fail
  refine (K1.out w (Below.refl _ _)).mono ?_
  rintro e w1 ⟨v1, rfl, h1, hb⟩
  have HI1 : Hid (Ir w1 v1 ns) := h1
  have HB1 : Hid (Below w.heap.size w w1) := hb
  clear h1 hb K1
  go_wp2_with fail
  refine (K2.out w1 HB1.out).mono ?_
  rintro e w2 ⟨v2, rfl, h2, hb⟩
  have HE : Hid (Calls Try.prog 5 #[v1, v2] w2 _) := iequal_calls v1 v2 ns w2 (HI1.out.below hb) h2 (by have := HL.out; omega)
  have HB2 : Hid (Below w.heap.size w w2) := bel2 HB1.out hb
  clear h2 hb K2 HI1
  go_wp2_with fail
  refine HE.out.mono ?_
  rintro e w3 ⟨rfl, hb⟩
  have HB3 : Hid (Below w.heap.size w w3) := bel2 HB2.out hb
  clear hb HE
  go_wp2_with fail
  refine (K3.out w3 HB3.out).mono ?_
  rintro e w4 ⟨v3, w4', rfl, hg, hb', hb⟩
  obtain ⟨fa, fc, rs, rfl, hrl, hre, hie⟩ := hg.rows hb'
  have HB4 : Hid (Below w.heap.size w w4) := bel2 HB3.out hb
  have HRE : Hid (rs.length = fz.length ∧ RowE w4 fa rs ∧ ∀ i, IsE w4 NN (rx rs i) (ex fz i)) := ⟨hrl, hre, hie⟩
  generalize hm : fz.length = m
  have HM : Hid (fz.length = m) := hm
  clear hg hb hb' hrl hre hie hm K3
  go_wp2_with fail
  refine (K4.out w4 HB4.out).mono ?_
  rintro e w5 ⟨v5, rfl, hg, hb⟩
  obtain ⟨ga, gc, rs2, rfl, hrl, hre, hie⟩ := hg.rows
  have HB5 : Hid (Below w.heap.size w w5) := bel2 HB4.out hb
  have HS : Hid (Calls Try.prog 8 #[.slice fa m fc, .slice ga m gc] w5 _) := rsame_self fa ga fc gc NN m rs rs2 fz HM.out (by rw [← HM.out]; have := HL.out.2; omega) w5 HRE.out.1 hrl (HRE.out.2.1.below hb) hre (fun i => (HRE.out.2.2 i).below hb) hie
  rw [HM.out]
  clear hg hb hrl hre hie HRE K4
  go_wp2_with fail
  refine HS.out.mono ?_
  rintro e w6 ⟨rfl, hb⟩
  have HB6 : Hid (Below w.heap.size w w6) := bel2 HB5.out hb
  have HAw : Hid (Calls Try.prog 4 #[] w6 _) := awake_calls w6
  clear hb HS HM
  go_wp2_with fail
  refine HAw.out.mono ?_
  rintro e w7 ⟨rfl, hb⟩
  go_wp2_with fail
  go_ret
  exact ⟨rfl, bel2 HB6.out hb⟩
set_option maxHeartbeats 2000000 in
theorem points_many (a : Option Addr) (N c : Nat) (hN : ¬ N ≤ 200) (point run t : Int) (w : World) :
    Calls Try.prog 3 #[.slice a N c, .int .i64 point, .int .i64 run, .int .i64 t] w fun e w' => e = .returned (.bool true) ∧ Below w.heap.size w w' := by
  have hfd : decide ((200 : Int) < (N : Int)) = true := decide_eq_true (by omega)
  have hfn : decide (200 < N) = true := decide_eq_true (by omega)
  have HAw : Hid (Calls Try.prog 4 #[] w _) := awake_calls w
  clear hN
  go_enter Try.func3, Try.ntmps3
  go_wp2_with fail
  refine HAw.out.mono ?_
  rintro e w7 ⟨rfl, hb⟩
  go_wp2_with fail
  go_ret
  exact ⟨rfl, hb⟩
end Go.Proofs.Ytdlllehoeodekaa
