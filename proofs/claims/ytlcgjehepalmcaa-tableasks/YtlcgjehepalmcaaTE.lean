/- Requests in memory; the contract of Key. -/
import Derived.Test.YtlcgjehepalmcaaTA
import Derived.Deep.MidRow
import Derived.Deep.RegionHeld3
namespace Go.Proofs.Ytlcgjehepalmcaa
open Go.ChangeShapes Go.WideShapes Go.ChangeAt Go.RowKit
/-- v holds the bytes l, in memory from lo on. -/
def HN (lo : Nat) (w : World) (v : Value) (l : List UInt8) : Prop := Lib.HoldsBytes w v l ∧ ∀ a m c, v = .slice (some a) m c → lo ≤ a.block
theorem HN.lower {lo lo' : Nat} {w : World} {v : Value} {l : List UInt8} (h : HN lo w v l) (hl : lo' ≤ lo) : HN lo' w v l := ⟨h.1, fun a m c e => Nat.le_trans hl (h.2 a m c e)⟩
theorem HN.below {lo : Nat} {w w' : World} {v : Value} {l : List UInt8} (h : HN lo w v l) (hb : Below w.heap.size w w') : HN lo w' v l := ⟨holds_below h.1 hb, h.2⟩
theorem Own.hn {lo : Nat} {w : World} {v : Value} {l : List UInt8} (h : Own lo w v l) : HN lo w v l := by
  refine ⟨h.holds, ?_⟩
  have h0 : w.ownsRow lo 5 1 v l.length (bval l) := h
  obtain ⟨_, ⟨rfl, h2⟩ | ⟨g, cap, cur, rfl, hg, _⟩⟩ := h0
  · intro a m c e; cases e
  · intro a m c e; cases e; exact hg
theorem Ap.new {n N : Nat} {w : World} {v : Value} {acc : List UInt8} (h : Ap n N w v acc) : HN n w v acc := by
  refine ⟨h.holds, ?_⟩
  rcases h with ⟨rfl, _⟩ | ⟨g, C, cur, rfl, hg, _⟩
  · intro a m c e; cases e
  · intro a m c e; cases e; exact hg
set_option maxHeartbeats 2000000 in
set_option maxRecDepth 100000 in
theorem concatN_calls (b n c : Nat) (vs : List Value) (ls : List (List UInt8)) (w : World) (hn : ls.length = n) (hP : Lib.PartsAt w ⟨b, 0, none⟩ vs ls) (hn47 : n ≤ 140737488355328) (T : Nat) (hT : Lib.lens ls = T) (hlen : T ≤ 281474976710656) :
    Calls Try.prog 30 #[.slice (some ⟨b, 0, none⟩) n c] w fun e w' => ∃ v, e = .returned v ∧ HN w.heap.size w' v ls.flatten ∧ Below w.heap.size w w' := by
  have PA : Hid (Lib.PartsAt w ⟨b, 0, none⟩ vs ls) := hP
  have HT : Hid (Lib.lens ls = T) := hT
  have HG : Hid (Calls _ _ _ _ _) := grow_calls T hlen w
  clear hP hT
  go_enter Try.func30, Try.ntmps30
  go_wp2
  go_loop [3, 11] (fun s i => ∃ k : Nat, k ≤ n ∧ i = .int .i64 k ∧ s = .int .i64 ((Lib.lens (ls.take k) : Nat) : Int)) (fun _ i => n - (intOf i).toNat)
  case atStart => exact ⟨0, Nat.zero_le _, rfl, rfl⟩
  case round =>
    obtain ⟨k, hk, rfl, rfl⟩ := hrel
    by_cases hlt : k < n
    · obtain ⟨p, cap, l, hl, hcell, _, _⟩ := PA.out.get k (by omega)
      rw [add_plain] at hcell
      simp only [Nat.zero_add] at hcell
      have hs1 := Lib.lens_take_succ ls k l hl
      have hs2 := Lib.lens_take_le ls (k + 1)
      have hb : Lib.lens (ls.take k) + l.length ≤ 281474976710656 := by have := HT.out; omega
      have HS : Hid (Lib.lens (ls.take (k + 1)) = Lib.lens (ls.take k) + l.length) := hs1
      clear hs1 hs2
      generalize Lib.lens (ls.take k) = acc at hb HS
      have hw : wrap64 ((acc : Int) + (l.length : Int)) = (acc : Int) + (l.length : Int) := by unfold wrap64; omega
      have hd : decide ((acc : Int) + (l.length : Int) < 0) = false := decide_eq_false (by omega)
      go_wp2
      go_round
      case rel => exact ⟨k + 1, by omega, by go_num, by rw [HS.out]; go_num⟩
      case measure => simp [intOf]; omega
    · obtain rfl : k = n := by omega
      have hall : ls.take k = ls := by rw [← hn, List.take_length]
      rw [hall, HT.out]
      go_wp2_with fail
      refine Calls.mono HG.out ?_
      rintro e w1 ⟨v1, rfl, hA1, hB1⟩
      have HA1 : Hid (Ap w.heap.size T w1 v1 []) := hA1
      have HB1 : Hid (Below w.heap.size w w1) := hB1
      clear hA1 hB1
      go_wp2
      go_loopw [6, 27] (fun v i wr => ∃ j : Nat, j ≤ k ∧ i = .int .i64 j ∧ Hid (Ap w.heap.size T wr v (ls.take j).flatten) ∧ Hid (Below w.heap.size w wr)) (fun _ i _ => k - (intOf i).toNat)
      case atStart => exact ⟨0, Nat.zero_le _, rfl, HA1, HB1⟩
      case round =>
        obtain ⟨j, hj, rfl, HA, HB⟩ := hrel
        by_cases hlt2 : j < k
        · obtain ⟨p, cap, l, hl, hcell, hnil, hcells⟩ := PA.out.get j (by omega)
          rw [add_plain] at hcell
          simp only [Nat.zero_add] at hcell
          have hs1 := Lib.lens_take_succ ls j l hl
          have hs2 := Lib.lens_take_le ls (j + 1)
          have hal : (ls.take j).flatten.length = Lib.lens (ls.take j) := flat_len _
          have hb : (ls.take j).flatten.length + l.length ≤ T := by have := HT.out; omega
          have hcw : wr.cell? ⟨b, j, none⟩ = some (.slice p l.length cap) := Lib.Below.cellOf HB.out hcell (Nat.le_refl _)
          have hh : Lib.HoldsBytes wr (.slice p l.length cap) l := ⟨p, cap, rfl, hnil, fun a ha i x hx => Lib.Below.cellOf HB.out (hcells a ha i x hx) (Nat.le_refl _)⟩
          obtain ⟨v2, w2, hr2, hA2, hB2⟩ := ap_step HA.out hh hb
          have HR : Hid (∀ ty, _) := hr2
          have HA2 : Hid (Ap w.heap.size T w2 v2 (ls.take (j + 1)).flatten) := by rw [flat_take ls j l hl]; exact hA2
          have HB2 : Hid (Below w.heap.size w w2) := HB.out.trans hB2
          clear hr2 hA2 hB2 hh hcell hnil hcells hs1 hs2 hal hb
          go_wp2_with (at_builtin; go_must (refine Lib.wpList_append_run wr rfl _ _ 35 35 rfl _ (.slice p l.length cap) rfl rfl _ _ (HR.out _) ?_))
          go_roundw
          case rel => exact ⟨j + 1, by omega, by go_num, HA2, HB2⟩
          case measure => simp [intOf]; omega
        · obtain rfl : j = k := by omega
          rw [hall] at HA
          go_wp2
          go_ret
          exact ⟨_, rfl, HA.out.new, HB.out⟩
/-- A request, as far as a table looks at it: pb: the bytes of its Value. -/
structure Rq where
  kind : Int
  req : ByteArray
  name : ByteArray
  pb : List UInt8
  num : Int
  first : Int
  coef : Nat
  most : Int
/-- Five cells of cs from p on are the value t. -/
def V5 (R : Value → Tv → Prop) (cs : Array Value) (p : Nat) (t : Tv) : Prop :=
  ∃ k x b s a m c, cs[p]? = some (.int .i64 k) ∧ cs[p + 1]? = some (.int .i64 x) ∧ cs[p + 2]? = some (.int .u64 b) ∧ cs[p + 3]? = some (.string s) ∧ cs[p + 4]? = some (.slice a m c) ∧ R (.agg #[.int .i64 k, .int .i64 x, .int .u64 b, .string s, .slice a m c]) t
theorem V5.map {R R' : Value → Tv → Prop} {cs : Array Value} {p : Nat} {t : Tv} (hR : ∀ v, R v t → R' v t) (h : V5 R cs p t) : V5 R' cs p t := by
  obtain ⟨k, x, b, s, a, m, c, h0, h1, h2, h3, h4, h5⟩ := h
  exact ⟨k, x, b, s, a, m, c, h0, h1, h2, h3, h4, hR _ h5⟩
/-- What value.Put writes. -/
def IsPut (n : Nat) (t : Tv) (l : List UInt8) : Prop := (ShapeT n 4 t ∧ (bytesT n t).length ≤ 1000 → l = bytesT n t) ∧ (¬ (ShapeT n 4 t ∧ (bytesT n t).length ≤ 1000) → l = [])
theorem IsPut.len {n : Nat} {t : Tv} {l : List UInt8} (h : IsPut n t l) : l.length ≤ 1000 := by
  by_cases hs : ShapeT n 4 t ∧ (bytesT n t).length ≤ 1000
  · rw [h.1 hs]; exact hs.2
  · rw [h.2 hs]; simp
/-- Seventeen cells are a request. -/
structure IsR (w : World) (n : Nat) (cs : Array Value) (r : Rq) : Prop where
  size : cs.size = 17
  c0 : cs[0]? = some (.int .i64 r.kind)
  c2 : cs[2]? = some (.string r.req)
  c3 : cs[3]? = some (.string r.name)
  v : ∃ t, V5 (Is w n) cs 4 t ∧ IsPut n t r.pb
  c10 : cs[10]? = some (.int .i64 r.num)
  c12 : cs[12]? = some (.int .i64 r.first)
  c13 : cs[13]? = some (.int .u64 (r.coef : Int))
  c14 : cs[14]? = some (.int .i64 r.most)
  one : ∀ (j : Nat) (v : Value), cs[j]? = some v → v.oneCell' = true
  wk : (Lit.int .i64 r.kind).wf = true
  wn : (Lit.int .i64 r.num).wf = true
  wf : (Lit.int .i64 r.first).wf = true
  wm : (Lit.int .i64 r.most).wf = true
  wc : r.coef < 18446744073709551616
  wq : r.name.size ≤ 140737488351232
theorem IsR.below {w w' : World} {n : Nat} {cs : Array Value} {r : Rq} (h : IsR w n cs r) (hb : Below w.heap.size w w') : IsR w' n cs r := by
  obtain ⟨t, hv, hp⟩ := h.v
  exact { h with v := ⟨t, hv.map (fun v h => h.below hb), hp⟩ }
/-- The parts of a Key. -/
def keyP (r : Rq) : List (List UInt8) := [be (tn r.kind) 8, enc r.name.size ++ r.name.data.toList, r.pb, be (tn r.num) 8, be (tn r.first) 8, be r.coef 8, be (tn r.most) 8]
def keyB (r : Rq) : List UInt8 := (keyP r).flatten
theorem be_len8 (x : Nat) : (be x 8).length = 8 := be_length _ _
theorem key_lens {w : World} {n : Nat} {cs : Array Value} {r : Rq} (h : IsR w n cs r) : Lib.lens (keyP r) ≤ 140737488352400 := by
  obtain ⟨t, _, hp⟩ := h.v
  have h1 := hp.len
  have h2 := enc_length r.name.size (by have := h.wq; omega)
  have h3 := data_len r.name
  have h4 := h.wq
  simp only [keyP, Lib.lens, List.map_cons, List.map_nil, List.sum_cons, List.sum_nil, be_len8, List.length_append, h3]
  omega
theorem keyB_len {w : World} {n : Nat} {cs : Array Value} {r : Rq} (h : IsR w n cs r) : (keyB r).length ≤ 140737488352400 := by
  have := key_lens h
  unfold Lib.lens at this
  unfold keyB
  rw [List.length_flatten]
  exact this
theorem info26s : (Try.prog.info? 26).map (·.size) = some 5 := by kernel_rfl
theorem info32s (cs : Array Value) (h : cs.size = 17) : (Try.prog.info? 32).map (·.size) = some cs.size := by
  rw [h]
  kernel_rfl
theorem range4 {w : World} {g : Nat} {cs : Array Value} {t : TypeId} {a b c d e : Value} (h : w.heap[g]? = some (.cells cs t (0, 0))) (h0 : cs[4]? = some a) (h1 : cs[5]? = some b) (h2 : cs[6]? = some c) (h3 : cs[7]? = some d) (h4 : cs[8]? = some e) : w.rangeAt g 4 [a, b, c, d, e] := fun j v hj => by
  rw [cell_of_row w g _ cs t (0, 0) h]
  match j, hj with
  | 0, hj => cases hj; exact h0
  | 1, hj => cases hj; exact h1
  | 2, hj => cases hj; exact h2
  | 3, hj => cases hj; exact h3
  | 4, hj => cases hj; exact h4
theorem hold8 {w : World} {g : Nat} {cs : Array Value} {a b c d e : Value} (h : w.heap[g]? = some (.cells cs 32 (0, 0))) (h0 : cs[4]? = some a) (h1 : cs[5]? = some b) (h2 : cs[6]? = some c) (h3 : cs[7]? = some d) (h4 : cs[8]? = some e) (o : Obj) : (∀ j, (w.alloc o).cell? ⟨g, j, none⟩ = cs[j]?) ∧ (w.alloc o).rangeAt g 4 [a, b, c, d, e] :=
  ⟨fun j => cell_of_row _ _ j cs 32 (0, 0) (row_below (bel1 w o) h), range4 (row_below (bel1 w o) h) h0 h1 h2 h3 h4⟩
theorem parts7 (w : World) {v0 v1 v2 v3 v4 v5 v6 : Value} {l0 l1 l2 l3 l4 l5 l6 : List UInt8} (h0 : Lib.HoldsBytes w v0 l0) (h1 : Lib.HoldsBytes w v1 l1) (h2 : Lib.HoldsBytes w v2 l2) (h3 : Lib.HoldsBytes w v3 l3) (h4 : Lib.HoldsBytes w v4 l4) (h5 : Lib.HoldsBytes w v5 l5) (h6 : Lib.HoldsBytes w v6 l6) :
    Lib.PartsAt (w.alloc (.cells #[v0, v1, v2, v3, v4, v5, v6] 35)) ⟨w.heap.size, 0, none⟩ [v0, v1, v2, v3, v4, v5, v6] [l0, l1, l2, l3, l4, l5, l6] := by
  refine ⟨rfl, ?_, ?_⟩
  · intro i v hv
    rw [add_plain, Nat.zero_add, cell_of_row _ w.heap.size i _ 35 (0, 0) (heap_alloc_last w _)]
    simpa using hv
  · intro i v l hv hl
    match i, hv, hl with
    | 0, hv, hl => simp at hv hl; subst hv hl; exact holds_below h0 (bel1 w _)
    | 1, hv, hl => simp at hv hl; subst hv hl; exact holds_below h1 (bel1 w _)
    | 2, hv, hl => simp at hv hl; subst hv hl; exact holds_below h2 (bel1 w _)
    | 3, hv, hl => simp at hv hl; subst hv hl; exact holds_below h3 (bel1 w _)
    | 4, hv, hl => simp at hv hl; subst hv hl; exact holds_below h4 (bel1 w _)
    | 5, hv, hl => simp at hv hl; subst hv hl; exact holds_below h5 (bel1 w _)
    | 6, hv, hl => simp at hv hl; subst hv hl; exact holds_below h6 (bel1 w _)
    | i + 7, hv, hl => simp at hv
theorem holds_form {w : World} {v : Value} {l : List UInt8} (h : Lib.HoldsBytes w v l) : ∃ p c, v = .slice p l.length c := by obtain ⟨p, c, rfl, _⟩ := h; exact ⟨_, _, rfl⟩
theorem nb_hp {w w' : World} {l : List UInt8} {e : Ending} (h : NB w l e w') : ∃ u, e = .returned u ∧ Lib.HoldsBytes w' u l ∧ Below w.heap.size w w' := by
  obtain ⟨g, _, h1, h2, h3⟩ := h
  exact ⟨_, h1, h2, h3⟩
/-- What Key answers. -/
def KyP (w : World) (l : List UInt8) (e : Ending) (w' : World) : Prop := ∃ v, e = .returned v ∧ HN w.heap.size w' v l ∧ Below w.heap.size w w'
def HpP (w : World) (l : List UInt8) (e : Ending) (w' : World) : Prop := ∃ u, e = .returned u ∧ Lib.HoldsBytes w' u l ∧ Below w.heap.size w w'
set_option maxHeartbeats 4000000 in
set_option maxRecDepth 100000 in
theorem key_calls (n : Nat) (cs : Array Value) (r : Rq) (w : World) (h : IsR w n cs r) : Calls Try.prog 19 #[.agg cs] w (KyP w (keyB r)) := by
  have hlen := key_lens h
  obtain ⟨t, ⟨vk, vx, vb, vs, va, vm, vc, g4, g5, g6, g7, g8, hi⟩, hpt⟩ := h.v
  have V0 : Hid (cs[4]? = some (.int .i64 vk)) := g4
  have V1 : Hid (cs[5]? = some (.int .i64 vx)) := g5
  have V2 : Hid (cs[6]? = some (.int .u64 vb)) := g6
  have V3 : Hid (cs[7]? = some (.string vs)) := g7
  have V4 : Hid (cs[8]? = some (.slice va vm vc)) := g8
  have J0 : ∀ x, (Lit.int .i64 x).wf = true → ∀ W, Calls Try.prog 31 #[.slice none 0 0, .int .i64 x] W (HpP W (be (tn x) 8)) := fun x hx W => (int_calls (.slice none 0 0) [] x hx W (holds_nil W) (by simp)).mono fun e w' h => by
    rw [List.nil_append] at h
    exact nb_hp h
  have K0 : Hid (∀ W, Below w.heap.size w W → Calls Try.prog 31 #[.slice none 0 0, .int .i64 r.kind] W (HpP W (be (tn r.kind) 8))) := fun W _ => J0 _ h.wk W
  have K1 : Hid (∀ W, Below w.heap.size w W → Calls Try.prog 32 #[.slice none 0 0, .string r.name] W (HpP W (enc r.name.size ++ r.name.data.toList))) := fun W _ => (text_calls (.slice none 0 0) [] r.name W (holds_nil W) h.wq (by have := h.wq; simp; omega)).mono fun e w' h => by
    rw [List.nil_append] at h
    exact nb_hp h
  have K2 : Hid (∀ W, Below w.heap.size w W → Calls Try.prog 33 #[.slice none 0 0, .agg #[.int .i64 vk, .int .i64 vx, .int .u64 vb, .string vs, .slice va vm vc]] W (HpP W r.pb)) := fun W hB => (put_calls n _ t (.slice none 0 0) [] W (hi.below hB) (holds_nil W) (by simp)).mono fun e w' ⟨v', h1, h2, h3, h4⟩ => by
    rw [List.nil_append] at h2
    refine ⟨v', h1, ?_, h4⟩
    by_cases hs : ShapeT n 4 t ∧ (bytesT n t).length ≤ 1000
    · rw [hpt.1 hs]; exact h2 hs
    · rw [hpt.2 hs]; exact h3 hs
  have K3 : Hid (∀ W, Below w.heap.size w W → Calls Try.prog 31 #[.slice none 0 0, .int .i64 r.num] W (HpP W (be (tn r.num) 8))) := fun W _ => J0 _ h.wn W
  have K4 : Hid (∀ W, Below w.heap.size w W → Calls Try.prog 31 #[.slice none 0 0, .int .i64 r.first] W (HpP W (be (tn r.first) 8))) := fun W _ => J0 _ h.wf W
  have K5 : Hid (∀ W, Below w.heap.size w W → Calls Try.prog 34 #[.slice none 0 0, .int .u64 (r.coef : Int)] W (HpP W (be r.coef 8))) := fun W _ => (bits_calls (.slice none 0 0) [] r.coef W (holds_nil W) (by simp)).mono fun e w' h => by
    rw [List.nil_append] at h
    exact nb_hp h
  have K6 : Hid (∀ W, Below w.heap.size w W → Calls Try.prog 31 #[.slice none 0 0, .int .i64 r.most] W (HpP W (be (tn r.most) 8))) := fun W _ => J0 _ h.wm W
  have HLN : Hid (Lib.lens (keyP r) ≤ 281474976710656) := by show _ ≤ _; omega
  have c0 := h.c0
  have c3 := h.c3
  have c10 := h.c10
  have c12 := h.c12
  have c13 := h.c13
  have c14 := h.c14
  have HQ : Hid (∀ v w', HN w.heap.size w' v (keyP r).flatten → Below w.heap.size w w' → KyP w (keyB r) (.returned v) w') := fun v w' h1 h2 => ⟨v, rfl, h1, h2⟩
  generalize KyP w (keyB r) = Q at HQ ⊢
  unfold keyP at HLN HQ
  clear h J0 hlen hi hpt
  generalize be (tn r.kind) 8 = P0 at K0 HLN HQ
  generalize enc r.name.size ++ r.name.data.toList = P1 at K1 HLN HQ
  generalize r.pb = P2 at K2 HLN HQ
  generalize be (tn r.num) 8 = P3 at K3 HLN HQ
  generalize be (tn r.first) 8 = P4 at K4 HLN HQ
  generalize be r.coef 8 = P5 at K5 HLN HQ
  generalize be (tn r.most) 8 = P6 at K6 HLN HQ
  have HG0 : Hid ((w.alloc (.cells cs 32)).heap[w.heap.size]? = some (.cells cs 32 (0, 0))) := heap_alloc_last w _
  have HB0 : Hid (Below w.heap.size w (w.alloc (.cells cs 32))) := bel1 _ _
  go_enter Try.func19, Try.ntmps19
  go_upto_region 1 with fail
  change Code.wp _ _ _ _ (w.alloc (.cells cs 32))
  generalize w.alloc (.cells cs 32) = W0 at HG0 HB0 ⊢
  refine wp_region_held_drew (S := (fun w' => (∀ j, w'.cell? ⟨w.heap.size, j, none⟩ = cs[j]?) ∧ w'.rangeAt w.heap.size 4 [.int .i64 vk, .int .i64 vx, .int .u64 vb, .string vs, .slice va vm vc])) (by kernel_rfl) ⟨fun j => cell_of_row _ _ j cs 32 (0, 0) HG0.out, range4 HG0.out V0.out V1.out V2.out V3.out V4.out⟩ (fun hHeld => ?_)
  change wpAnyH _ _ _ _ _ _ _ _ (World.drew _)
  refine wpAnyH_take (i := 0) (oi := { dst := some 3, op := Go.Op.fieldAddr 32 (Go.Operand.tmp 1) 0, type := 0, pos := "table.go:18", after := #[], guard := none }) (v := ?_) rfl (by kernel_rfl) (by kernel_rfl) (by kernel_rfl) (fun _ _ _ h => h) (Or.inl ⟨by rfl, ?_⟩) hHeld ?_
  rotate_left 1
  · (intro w hSw; (try dsimp only at hSw); go_simp <;> with_reducible rfl)
  simp only [Act.put, List.setIfInBounds_toArray, List.set_cons_zero, List.set_cons_succ]
  refine wpAnyH_take (i := 1) (oi := { dst := some 4, op := Go.Op.load 3 (Go.Operand.tmp 3), type := 3, pos := "table.go:18", after := #[{ on := 0, ground := Go.Ground.data }], guard := none }) (v := ?_) rfl (by kernel_rfl) (by kernel_rfl) (by kernel_rfl) (fun _ _ _ h => h) (Or.inl ⟨by rfl, ?_⟩) hHeld ?_
  rotate_left 1
  · (intro w hSw; (try dsimp only at hSw); go_simp <;> with_reducible rfl)
  simp only [Act.put, List.setIfInBounds_toArray, List.set_cons_zero, List.set_cons_succ]
  refine wpAnyH_take (i := 3) (oi := { dst := some 6, op := Go.Op.fieldAddr 32 (Go.Operand.tmp 1) 3, type := 0, pos := "table.go:18", after := #[], guard := none }) (v := ?_) rfl (by kernel_rfl) (by kernel_rfl) (by kernel_rfl) (fun _ _ _ h => h) (Or.inl ⟨by rfl, ?_⟩) hHeld ?_
  rotate_left 1
  · (intro w hSw; (try dsimp only at hSw); go_simp <;> with_reducible rfl)
  simp only [Act.put, List.setIfInBounds_toArray, List.set_cons_zero, List.set_cons_succ]
  refine wpAnyH_take (i := 4) (oi := { dst := some 7, op := Go.Op.load 9 (Go.Operand.tmp 6), type := 9, pos := "table.go:18", after := #[{ on := 3, ground := Go.Ground.data }], guard := none }) (v := ?_) rfl (by kernel_rfl) (by kernel_rfl) (by kernel_rfl) (fun _ _ _ h => h) (Or.inl ⟨by rfl, ?_⟩) hHeld ?_
  rotate_left 1
  · (intro w hSw; (try dsimp only at hSw); go_simp <;> with_reducible rfl)
  simp only [Act.put, List.setIfInBounds_toArray, List.set_cons_zero, List.set_cons_succ]
  refine wpAnyH_take (i := 6) (oi := { dst := some 9, op := Go.Op.fieldAddr 32 (Go.Operand.tmp 1) 4, type := 0, pos := "table.go:18", after := #[], guard := none }) (v := ?_) rfl (by kernel_rfl) (by kernel_rfl) (by kernel_rfl) (fun _ _ _ h => h) (Or.inl ⟨by rfl, ?_⟩) hHeld ?_
  rotate_left 1
  · (intro w hSw; (try dsimp only at hSw); go_simp <;> with_reducible rfl)
  simp only [Act.put, List.setIfInBounds_toArray, List.set_cons_zero, List.set_cons_succ]
  refine wpAnyH_take (i := 7) (oi := { dst := some 10, op := Go.Op.load 26 (Go.Operand.tmp 9), type := 26, pos := "table.go:18", after := #[{ on := 6, ground := Go.Ground.data }], guard := none }) (v := _) rfl (by kernel_rfl) (by kernel_rfl) (by kernel_rfl) (fun _ _ _ h => h) (yieldsIf_load_mid rfl 26 _ rfl w.heap.size 4 rfl [.int .i64 vk, .int .i64 vx, .int .u64 vb, .string vs, .slice va vm vc] _ (fun w h => h.2) Try.underlying26 rfl info26s) hHeld ?_
  simp only [Act.put, List.setIfInBounds_toArray, List.set_cons_zero, List.set_cons_succ]
  refine wpAnyH_take (i := 9) (oi := { dst := some 12, op := Go.Op.fieldAddr 32 (Go.Operand.tmp 1) 6, type := 0, pos := "table.go:18", after := #[], guard := none }) (v := ?_) rfl (by kernel_rfl) (by kernel_rfl) (by kernel_rfl) (fun _ _ _ h => h) (Or.inl ⟨by rfl, ?_⟩) hHeld ?_
  rotate_left 1
  · (intro w hSw; (try dsimp only at hSw); go_simp <;> with_reducible rfl)
  simp only [Act.put, List.setIfInBounds_toArray, List.set_cons_zero, List.set_cons_succ]
  refine wpAnyH_take (i := 10) (oi := { dst := some 13, op := Go.Op.load 3 (Go.Operand.tmp 12), type := 3, pos := "table.go:18", after := #[{ on := 9, ground := Go.Ground.data }], guard := none }) (v := ?_) rfl (by kernel_rfl) (by kernel_rfl) (by kernel_rfl) (fun _ _ _ h => h) (Or.inl ⟨by rfl, ?_⟩) hHeld ?_
  rotate_left 1
  · (intro w hSw; (try dsimp only at hSw); go_simp <;> with_reducible rfl)
  simp only [Act.put, List.setIfInBounds_toArray, List.set_cons_zero, List.set_cons_succ]
  refine wpAnyH_take (i := 12) (oi := { dst := some 15, op := Go.Op.fieldAddr 32 (Go.Operand.tmp 1) 8, type := 0, pos := "table.go:18", after := #[], guard := none }) (v := ?_) rfl (by kernel_rfl) (by kernel_rfl) (by kernel_rfl) (fun _ _ _ h => h) (Or.inl ⟨by rfl, ?_⟩) hHeld ?_
  rotate_left 1
  · (intro w hSw; (try dsimp only at hSw); go_simp <;> with_reducible rfl)
  simp only [Act.put, List.setIfInBounds_toArray, List.set_cons_zero, List.set_cons_succ]
  refine wpAnyH_take (i := 13) (oi := { dst := some 16, op := Go.Op.fieldAddr 28 (Go.Operand.tmp 15) 0, type := 0, pos := "table.go:18", after := #[{ on := 12, ground := Go.Ground.data }], guard := none }) (v := ?_) rfl (by kernel_rfl) (by kernel_rfl) (by kernel_rfl) (fun _ _ _ h => h) (Or.inl ⟨by rfl, ?_⟩) hHeld ?_
  rotate_left 1
  · (intro w hSw; (try dsimp only at hSw); go_simp <;> with_reducible rfl)
  simp only [Act.put, List.setIfInBounds_toArray, List.set_cons_zero, List.set_cons_succ]
  refine wpAnyH_take (i := 14) (oi := { dst := some 17, op := Go.Op.load 3 (Go.Operand.tmp 16), type := 3, pos := "table.go:18", after := #[{ on := 13, ground := Go.Ground.data }], guard := none }) (v := ?_) rfl (by kernel_rfl) (by kernel_rfl) (by kernel_rfl) (fun _ _ _ h => h) (Or.inl ⟨by rfl, ?_⟩) hHeld ?_
  rotate_left 1
  · (intro w hSw; (try dsimp only at hSw); go_simp <;> with_reducible rfl)
  simp only [Act.put, List.setIfInBounds_toArray, List.set_cons_zero, List.set_cons_succ]
  refine wpAnyH_take (i := 16) (oi := { dst := some 19, op := Go.Op.fieldAddr 32 (Go.Operand.tmp 1) 8, type := 0, pos := "table.go:18", after := #[], guard := none }) (v := ?_) rfl (by kernel_rfl) (by kernel_rfl) (by kernel_rfl) (fun _ _ _ h => h) (Or.inl ⟨by rfl, ?_⟩) hHeld ?_
  rotate_left 1
  · (intro w hSw; (try dsimp only at hSw); go_simp <;> with_reducible rfl)
  simp only [Act.put, List.setIfInBounds_toArray, List.set_cons_zero, List.set_cons_succ]
  refine wpAnyH_take (i := 17) (oi := { dst := some 20, op := Go.Op.fieldAddr 28 (Go.Operand.tmp 19) 1, type := 0, pos := "table.go:18", after := #[{ on := 16, ground := Go.Ground.data }], guard := none }) (v := ?_) rfl (by kernel_rfl) (by kernel_rfl) (by kernel_rfl) (fun _ _ _ h => h) (Or.inl ⟨by rfl, ?_⟩) hHeld ?_
  rotate_left 1
  · (intro w hSw; (try dsimp only at hSw); go_simp <;> with_reducible rfl)
  simp only [Act.put, List.setIfInBounds_toArray, List.set_cons_zero, List.set_cons_succ]
  refine wpAnyH_take (i := 18) (oi := { dst := some 21, op := Go.Op.load 23 (Go.Operand.tmp 20), type := 23, pos := "table.go:18", after := #[{ on := 17, ground := Go.Ground.data }], guard := none }) (v := ?_) rfl (by kernel_rfl) (by kernel_rfl) (by kernel_rfl) (fun _ _ _ h => h) (Or.inl ⟨by rfl, ?_⟩) hHeld ?_
  rotate_left 1
  · (intro w hSw; (try dsimp only at hSw); go_simp <;> with_reducible rfl)
  simp only [Act.put, List.setIfInBounds_toArray, List.set_cons_zero, List.set_cons_succ]
  refine wpAnyH_take (i := 20) (oi := { dst := some 23, op := Go.Op.fieldAddr 32 (Go.Operand.tmp 1) 8, type := 0, pos := "table.go:18", after := #[], guard := none }) (v := ?_) rfl (by kernel_rfl) (by kernel_rfl) (by kernel_rfl) (fun _ _ _ h => h) (Or.inl ⟨by rfl, ?_⟩) hHeld ?_
  rotate_left 1
  · (intro w hSw; (try dsimp only at hSw); go_simp <;> with_reducible rfl)
  simp only [Act.put, List.setIfInBounds_toArray, List.set_cons_zero, List.set_cons_succ]
  refine wpAnyH_take (i := 21) (oi := { dst := some 24, op := Go.Op.fieldAddr 28 (Go.Operand.tmp 23) 2, type := 0, pos := "table.go:18", after := #[{ on := 20, ground := Go.Ground.data }], guard := none }) (v := ?_) rfl (by kernel_rfl) (by kernel_rfl) (by kernel_rfl) (fun _ _ _ h => h) (Or.inl ⟨by rfl, ?_⟩) hHeld ?_
  rotate_left 1
  · (intro w hSw; (try dsimp only at hSw); go_simp <;> with_reducible rfl)
  simp only [Act.put, List.setIfInBounds_toArray, List.set_cons_zero, List.set_cons_succ]
  refine wpAnyH_take (i := 22) (oi := { dst := some 25, op := Go.Op.load 3 (Go.Operand.tmp 24), type := 3, pos := "table.go:18", after := #[{ on := 21, ground := Go.Ground.data }], guard := none }) (v := ?_) rfl (by kernel_rfl) (by kernel_rfl) (by kernel_rfl) (fun _ _ _ h => h) (Or.inl ⟨by rfl, ?_⟩) hHeld ?_
  rotate_left 1
  · (intro w hSw; (try dsimp only at hSw); go_simp <;> with_reducible rfl)
  simp only [Act.put, List.setIfInBounds_toArray, List.set_cons_zero, List.set_cons_succ]
  refine wpAnyH_ready (rs := [2]) (by kernel_rfl) (by simp) ?_
  refine AllReadyH.cons (o := { dst := some 5, op := Go.Op.call { callee := Go.Callee.value (Go.Operand.func 31), args := #[Go.Operand.const (Go.Value.slice none 0 0), Go.Operand.tmp 4], argTypes := #[35, 3] }, type := 35, pos := "table.go:19", after := #[{ on := 1, ground := Go.Ground.data }], guard := none }) rfl (fun K hK => ?_) AllReadyH.nil
  go_simp
  refine Calls.mono (K0.out _ HB0.out.drew) ?_
  rintro e w1 ⟨v0, rfl, hh, hb⟩
  obtain ⟨p0, d0, ef⟩ := holds_form hh
  subst ef
  have HB1 : Hid (Below w.heap.size w w1) := bel2 HB0.out.drew hb
  have HG1 : Hid (w1.heap[w.heap.size]? = some (.cells cs 32 (0, 0))) := row_below hb HG0.out
  have P01 : Hid (Lib.HoldsBytes w1 (.slice p0 P0.length d0) P0) := hh
  clear hh hb
  refine hK.out _ _ ⟨fun j => cell_of_row _ _ j cs 32 (0, 0) HG1.out, range4 HG1.out V0.out V1.out V2.out V3.out V4.out⟩ (fun hHeld => ?_)
  clear hK K
  refine wpAnyH_ready (rs := [5]) (by kernel_rfl) (by simp) ?_
  refine AllReadyH.cons (o := { dst := some 8, op := Go.Op.call { callee := Go.Callee.value (Go.Operand.func 32), args := #[Go.Operand.const (Go.Value.slice none 0 0), Go.Operand.tmp 7], argTypes := #[35, 9] }, type := 35, pos := "table.go:20", after := #[{ on := 4, ground := Go.Ground.data }, { on := 2, ground := Go.Ground.chain }], guard := none }) rfl (fun K hK => ?_) AllReadyH.nil
  go_simp
  refine Calls.mono (K1.out _ HB1.out) ?_
  rintro e w2 ⟨v1, rfl, hh, hb⟩
  obtain ⟨p1, d1, ef⟩ := holds_form hh
  subst ef
  have HB2 : Hid (Below w.heap.size w w2) := bel2 HB1.out hb
  have HG2 : Hid (w2.heap[w.heap.size]? = some (.cells cs 32 (0, 0))) := row_below hb HG1.out
  have P02 : Hid (Lib.HoldsBytes w2 (.slice p0 P0.length d0) P0) := holds_below P01.out hb
  have P12 : Hid (Lib.HoldsBytes w2 (.slice p1 P1.length d1) P1) := hh
  clear hh hb
  clear P01
  refine hK.out _ _ ⟨fun j => cell_of_row _ _ j cs 32 (0, 0) HG2.out, range4 HG2.out V0.out V1.out V2.out V3.out V4.out⟩ (fun hHeld => ?_)
  clear hK K
  refine wpAnyH_ready (rs := [8]) (by kernel_rfl) (by simp) ?_
  refine AllReadyH.cons (o := { dst := some 11, op := Go.Op.call { callee := Go.Callee.value (Go.Operand.func 33), args := #[Go.Operand.const (Go.Value.slice none 0 0), Go.Operand.tmp 10], argTypes := #[35, 26] }, type := 35, pos := "table.go:21", after := #[{ on := 7, ground := Go.Ground.data }, { on := 5, ground := Go.Ground.chain }], guard := none }) rfl (fun K hK => ?_) AllReadyH.nil
  go_simp
  refine Calls.mono (K2.out _ HB2.out) ?_
  rintro e w3 ⟨v2, rfl, hh, hb⟩
  obtain ⟨p2, d2, ef⟩ := holds_form hh
  subst ef
  have HB3 : Hid (Below w.heap.size w w3) := bel2 HB2.out hb
  have HG3 : Hid (w3.heap[w.heap.size]? = some (.cells cs 32 (0, 0))) := row_below hb HG2.out
  have P03 : Hid (Lib.HoldsBytes w3 (.slice p0 P0.length d0) P0) := holds_below P02.out hb
  have P13 : Hid (Lib.HoldsBytes w3 (.slice p1 P1.length d1) P1) := holds_below P12.out hb
  have P23 : Hid (Lib.HoldsBytes w3 (.slice p2 P2.length d2) P2) := hh
  clear hh hb
  clear P02 P12
  refine hK.out _ _ ⟨fun j => cell_of_row _ _ j cs 32 (0, 0) HG3.out, range4 HG3.out V0.out V1.out V2.out V3.out V4.out⟩ (fun hHeld => ?_)
  clear hK K
  refine wpAnyH_ready (rs := [11]) (by kernel_rfl) (by simp) ?_
  refine AllReadyH.cons (o := { dst := some 14, op := Go.Op.call { callee := Go.Callee.value (Go.Operand.func 31), args := #[Go.Operand.const (Go.Value.slice none 0 0), Go.Operand.tmp 13], argTypes := #[35, 3] }, type := 35, pos := "table.go:22", after := #[{ on := 10, ground := Go.Ground.data }, { on := 8, ground := Go.Ground.chain }], guard := none }) rfl (fun K hK => ?_) AllReadyH.nil
  go_simp
  refine Calls.mono (K3.out _ HB3.out) ?_
  rintro e w4 ⟨v3, rfl, hh, hb⟩
  obtain ⟨p3, d3, ef⟩ := holds_form hh
  subst ef
  have HB4 : Hid (Below w.heap.size w w4) := bel2 HB3.out hb
  have HG4 : Hid (w4.heap[w.heap.size]? = some (.cells cs 32 (0, 0))) := row_below hb HG3.out
  have P04 : Hid (Lib.HoldsBytes w4 (.slice p0 P0.length d0) P0) := holds_below P03.out hb
  have P14 : Hid (Lib.HoldsBytes w4 (.slice p1 P1.length d1) P1) := holds_below P13.out hb
  have P24 : Hid (Lib.HoldsBytes w4 (.slice p2 P2.length d2) P2) := holds_below P23.out hb
  have P34 : Hid (Lib.HoldsBytes w4 (.slice p3 P3.length d3) P3) := hh
  clear hh hb
  clear P03 P13 P23
  refine hK.out _ _ ⟨fun j => cell_of_row _ _ j cs 32 (0, 0) HG4.out, range4 HG4.out V0.out V1.out V2.out V3.out V4.out⟩ (fun hHeld => ?_)
  clear hK K
  refine wpAnyH_ready (rs := [15]) (by kernel_rfl) (by simp) ?_
  refine AllReadyH.cons (o := { dst := some 18, op := Go.Op.call { callee := Go.Callee.value (Go.Operand.func 31), args := #[Go.Operand.const (Go.Value.slice none 0 0), Go.Operand.tmp 17], argTypes := #[35, 3] }, type := 35, pos := "table.go:23", after := #[{ on := 14, ground := Go.Ground.data }, { on := 11, ground := Go.Ground.chain }], guard := none }) rfl (fun K hK => ?_) AllReadyH.nil
  go_simp
  refine Calls.mono (K4.out _ HB4.out) ?_
  rintro e w5 ⟨v4, rfl, hh, hb⟩
  obtain ⟨p4, d4, ef⟩ := holds_form hh
  subst ef
  have HB5 : Hid (Below w.heap.size w w5) := bel2 HB4.out hb
  have HG5 : Hid (w5.heap[w.heap.size]? = some (.cells cs 32 (0, 0))) := row_below hb HG4.out
  have P05 : Hid (Lib.HoldsBytes w5 (.slice p0 P0.length d0) P0) := holds_below P04.out hb
  have P15 : Hid (Lib.HoldsBytes w5 (.slice p1 P1.length d1) P1) := holds_below P14.out hb
  have P25 : Hid (Lib.HoldsBytes w5 (.slice p2 P2.length d2) P2) := holds_below P24.out hb
  have P35 : Hid (Lib.HoldsBytes w5 (.slice p3 P3.length d3) P3) := holds_below P34.out hb
  have P45 : Hid (Lib.HoldsBytes w5 (.slice p4 P4.length d4) P4) := hh
  clear hh hb
  clear P04 P14 P24 P34
  refine hK.out _ _ ⟨fun j => cell_of_row _ _ j cs 32 (0, 0) HG5.out, range4 HG5.out V0.out V1.out V2.out V3.out V4.out⟩ (fun hHeld => ?_)
  clear hK K
  refine wpAnyH_ready (rs := [19]) (by kernel_rfl) (by simp) ?_
  refine AllReadyH.cons (o := { dst := some 22, op := Go.Op.call { callee := Go.Callee.value (Go.Operand.func 34), args := #[Go.Operand.const (Go.Value.slice none 0 0), Go.Operand.tmp 21], argTypes := #[35, 23] }, type := 35, pos := "table.go:24", after := #[{ on := 18, ground := Go.Ground.data }, { on := 15, ground := Go.Ground.chain }], guard := none }) rfl (fun K hK => ?_) AllReadyH.nil
  go_simp
  refine Calls.mono (K5.out _ HB5.out) ?_
  rintro e w6 ⟨v5, rfl, hh, hb⟩
  obtain ⟨p5, d5, ef⟩ := holds_form hh
  subst ef
  have HB6 : Hid (Below w.heap.size w w6) := bel2 HB5.out hb
  have HG6 : Hid (w6.heap[w.heap.size]? = some (.cells cs 32 (0, 0))) := row_below hb HG5.out
  have P06 : Hid (Lib.HoldsBytes w6 (.slice p0 P0.length d0) P0) := holds_below P05.out hb
  have P16 : Hid (Lib.HoldsBytes w6 (.slice p1 P1.length d1) P1) := holds_below P15.out hb
  have P26 : Hid (Lib.HoldsBytes w6 (.slice p2 P2.length d2) P2) := holds_below P25.out hb
  have P36 : Hid (Lib.HoldsBytes w6 (.slice p3 P3.length d3) P3) := holds_below P35.out hb
  have P46 : Hid (Lib.HoldsBytes w6 (.slice p4 P4.length d4) P4) := holds_below P45.out hb
  have P56 : Hid (Lib.HoldsBytes w6 (.slice p5 P5.length d5) P5) := hh
  clear hh hb
  clear P05 P15 P25 P35 P45
  refine hK.out _ _ ⟨fun j => cell_of_row _ _ j cs 32 (0, 0) HG6.out, range4 HG6.out V0.out V1.out V2.out V3.out V4.out⟩ (fun hHeld => ?_)
  clear hK K
  refine wpAnyH_ready (rs := [23]) (by kernel_rfl) (by simp) ?_
  refine AllReadyH.cons (o := { dst := some 26, op := Go.Op.call { callee := Go.Callee.value (Go.Operand.func 31), args := #[Go.Operand.const (Go.Value.slice none 0 0), Go.Operand.tmp 25], argTypes := #[35, 3] }, type := 35, pos := "table.go:25", after := #[{ on := 22, ground := Go.Ground.data }, { on := 19, ground := Go.Ground.chain }], guard := none }) rfl (fun K hK => ?_) AllReadyH.nil
  go_simp
  refine Calls.mono (K6.out _ HB6.out) ?_
  rintro e w7 ⟨v6, rfl, hh, hb⟩
  obtain ⟨p6, d6, ef⟩ := holds_form hh
  subst ef
  have HB7 : Hid (Below w.heap.size w w7) := bel2 HB6.out hb
  have HG7 : Hid (w7.heap[w.heap.size]? = some (.cells cs 32 (0, 0))) := row_below hb HG6.out
  have P07 : Hid (Lib.HoldsBytes w7 (.slice p0 P0.length d0) P0) := holds_below P06.out hb
  have P17 : Hid (Lib.HoldsBytes w7 (.slice p1 P1.length d1) P1) := holds_below P16.out hb
  have P27 : Hid (Lib.HoldsBytes w7 (.slice p2 P2.length d2) P2) := holds_below P26.out hb
  have P37 : Hid (Lib.HoldsBytes w7 (.slice p3 P3.length d3) P3) := holds_below P36.out hb
  have P47 : Hid (Lib.HoldsBytes w7 (.slice p4 P4.length d4) P4) := holds_below P46.out hb
  have P57 : Hid (Lib.HoldsBytes w7 (.slice p5 P5.length d5) P5) := holds_below P56.out hb
  have P67 : Hid (Lib.HoldsBytes w7 (.slice p6 P6.length d6) P6) := hh
  clear hh hb
  clear P06 P16 P26 P36 P46 P56
  refine hK.out _ _ ⟨fun j => cell_of_row _ _ j cs 32 (0, 0) HG7.out, range4 HG7.out V0.out V1.out V2.out V3.out V4.out⟩ (fun hHeld => ?_)
  clear hK K
  refine wpAnyH_ready (rs := [24]) (by kernel_rfl) (by simp) ?_
  refine AllReadyH.cons (o := { dst := some 27, op := Go.Op.buildSlice 67 7 #[(0, Go.Operand.tmp 5), (1, Go.Operand.tmp 8), (2, Go.Operand.tmp 11), (3, Go.Operand.tmp 14), (4, Go.Operand.tmp 18), (5, Go.Operand.tmp 22), (6, Go.Operand.tmp 26)], type := 67, pos := "table.go:18", after := #[{ on := 2, ground := Go.Ground.data }, { on := 5, ground := Go.Ground.data }, { on := 8, ground := Go.Ground.data }, { on := 11, ground := Go.Ground.data }, { on := 15, ground := Go.Ground.data }, { on := 19, ground := Go.Ground.data }, { on := 23, ground := Go.Ground.data }], guard := none }) rfl (fun K hK => ?_) AllReadyH.nil
  go_simp
  refine hK.out _ _ (hold8 HG7.out V0.out V1.out V2.out V3.out V4.out _) (fun hHeld => ?_)
  clear hK K
  refine wpAnyH_ready (rs := [25]) (by kernel_rfl) (by simp) ?_
  refine AllReadyH.cons (o := { dst := some 28, op := Go.Op.call { callee := Go.Callee.value (Go.Operand.func 30), args := #[Go.Operand.tmp 27], argTypes := #[67] }, type := 35, pos := "table.go:18", after := #[{ on := 24, ground := Go.Ground.data }, { on := 23, ground := Go.Ground.chain }], guard := none }) rfl (fun K hK => ?_) AllReadyH.nil
  go_simp
  refine Calls.mono (concatN_calls w7.heap.size 7 7 [.slice p0 P0.length d0, .slice p1 P1.length d1, .slice p2 P2.length d2, .slice p3 P3.length d3, .slice p4 P4.length d4, .slice p5 P5.length d5, .slice p6 P6.length d6] [P0, P1, P2, P3, P4, P5, P6] _ rfl (parts7 w7 P07.out P17.out P27.out P37.out P47.out P57.out P67.out) (by omega) _ rfl HLN.out) ?_
  rintro e w8 ⟨u8, rfl, hh, hb⟩
  have HB8 : Hid (Below w.heap.size w w8) := bel2 (bel2 HB7.out (bel1 w7 _)) hb
  have HR8 : Hid (HN w.heap.size w8 u8 [P0, P1, P2, P3, P4, P5, P6].flatten) := HN.lower hh (bel2 HB7.out (bel1 w7 _)).size
  have HG8 : Hid (w8.heap[w.heap.size]? = some (.cells cs 32 (0, 0))) := row_below hb (row_below (bel1 w7 _) HG7.out)
  clear hh hb
  refine hK.out _ _ ⟨fun j => cell_of_row _ _ j cs 32 (0, 0) HG8.out, range4 HG8.out V0.out V1.out V2.out V3.out V4.out⟩ (fun hHeld => ?_)
  clear hK K
  refine wpAnyH_take (i := 26) (oi := { dst := some 2, op := Go.Op.assign (Go.Operand.tmp 28), type := 35, pos := "table.go:18", after := #[{ on := 25, ground := Go.Ground.data }, { on := 25, ground := Go.Ground.chain }, { on := 0, ground := Go.Ground.phase }, { on := 1, ground := Go.Ground.phase }, { on := 2, ground := Go.Ground.phase }, { on := 3, ground := Go.Ground.phase }, { on := 4, ground := Go.Ground.phase }, { on := 5, ground := Go.Ground.phase }, { on := 6, ground := Go.Ground.phase }, { on := 7, ground := Go.Ground.phase }, { on := 8, ground := Go.Ground.phase }, { on := 9, ground := Go.Ground.phase }, { on := 10, ground := Go.Ground.phase }, { on := 11, ground := Go.Ground.phase }, { on := 12, ground := Go.Ground.phase }, { on := 13, ground := Go.Ground.phase }, { on := 14, ground := Go.Ground.phase }, { on := 15, ground := Go.Ground.phase }, { on := 16, ground := Go.Ground.phase }, { on := 17, ground := Go.Ground.phase }, { on := 18, ground := Go.Ground.phase }, { on := 19, ground := Go.Ground.phase }, { on := 20, ground := Go.Ground.phase }, { on := 21, ground := Go.Ground.phase }, { on := 22, ground := Go.Ground.phase }, { on := 23, ground := Go.Ground.phase }, { on := 24, ground := Go.Ground.phase }, { on := 25, ground := Go.Ground.phase }], guard := none }) (v := ?_) rfl (by kernel_rfl) (by kernel_rfl) (by kernel_rfl) (fun _ _ _ h => h) (Or.inl ⟨by rfl, ?_⟩) hHeld ?_
  rotate_left 1
  · (intro w hSw; (try dsimp only at hSw); go_simp <;> with_reducible rfl)
  simp only [Act.put, List.setIfInBounds_toArray, List.set_cons_zero, List.set_cons_succ]
  refine wpAnyH_done (by kernel_rfl) ?_ _
  go_wp2_with fail
  exact HQ.out _ _ HR8.out HB8.out
end Go.Proofs.Ytlcgjehepalmcaa
