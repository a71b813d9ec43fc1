/- The contract of Add. -/
import Derived.Test.YtlcgjehepalmcaaTF
namespace Go.Proofs.Ytlcgjehepalmcaa
open Go.ChangeShapes Go.WideShapes Go.ChangeAt Go.RowKit
/-- What Add makes of a table, and tells. -/
def addR (ds : List Dn) (r : Rq) (run : Int) : List Dn × Int := match fnd ds r.req with
  | some _ => (ds, 1)
  | none => if 30 ≤ ds.length then (ds, 7) else (ds.take (plc ds r.req) ++ ⟨r.req, r.kind, keyB r, run⟩ :: ds.drop (plc ds r.req), 0)
def AdP (w : World) (x : List Dn × Int) (e : Ending) (w' : World) : Prop := ∃ v, e = .returned (.tuple #[v, .int .i64 x.2]) ∧ Gr4 w.heap.size w' v x.1 ∧ Below w.heap.size w w'
theorem lt4 {lo : Nat} {w : World} {v : Value} {l : List UInt8} (h : HN lo w v l) : ∀ a m c, v = .slice (some a) m c → l ≠ [] → a.block ≠ w.heap.size := by
  intro a m c e hne he
  obtain ⟨p, c', e2, h1, h2⟩ := h.1
  rw [e] at e2
  cases e2
  have h0 : 0 < l.length := List.length_pos_iff.2 hne
  have hc0 := h2 a rfl 0 l[0] (List.getElem?_eq_getElem h0)
  have := World.block_lt_of_cell? w _ hc0
  unfold Addr.add at this
  split at this <;> (rw [he] at this; exact Nat.lt_irrefl _ this)
theorem holds_kb {g : Nat} {w w' : World} {v : Value} {l : List UInt8} (h : Lib.HoldsBytes w v l) (hg : ∀ a m c, v = .slice (some a) m c → l ≠ [] → a.block ≠ g) (hk : KB g w w') : Lib.HoldsBytes w' v l :=
  (HP.keep (P := fun B => B ≠ g) (P' := fun _ => True) (fun B q _c hB hc => ⟨hk.2.2.2.2 B (World.block_lt_of_cell? w ⟨B, q, none⟩ hc) hB, trivial⟩) ⟨h, hg⟩).1
set_option maxHeartbeats 4000000 in
set_option maxRecDepth 100000 in
theorem add_calls (ds : List Dn) (a : Option Addr) (n c : Nat) (hn : ds.length = n) (hs : n ≤ 500) (hy : ∀ d ∈ ds, d.y.length ≤ 140737488355328) (N : Nat) (cs : Array Value) (r : Rq) (run : Int) (w : World) (h : Tb w a ds) (hr : IsR w N cs r) :
    Calls Try.prog 16 #[.slice a n c, .agg cs, .int .i64 run] w (AdP w (addR ds r run)) := by
  have KC : Hid (∀ W, Below w.heap.size w W → Calls Try.prog 26 #[.slice a n c] W fun e w' => ∃ v, e = .returned v ∧ Gr4 W.heap.size w' v ds ∧ Below W.heap.size W w') := fun W hB => cloneAll_calls ds a n c hn hs hy W (h.below hB)
  have KF : Hid (∀ W, Below w.heap.size w W → Calls Try.prog 9 #[.slice a n c, .string r.req] W (FdP W (fnd ds r.req))) := fun W hB => find_calls r.req ds a n c hn (by omega) hy W (h.below hB)
  have KK : Hid (∀ W, Below w.heap.size w W → Calls Try.prog 19 #[.agg cs] W (KyP W (keyB r))) := fun W hB => key_calls N cs r W (hr.below hB)
  have KP : Hid (∀ W, Below w.heap.size w W → Calls Try.prog 28 #[.slice a n c, .string r.req] W fun e w' => e = .returned (.int .i64 (plc ds r.req : Nat)) ∧ Below W.heap.size W w') := fun W hB => place_calls r.req ds a n c hn (by omega) W (h.below hB)
  have hi32 := info32s cs hr.size
  have hi32l := info32l cs hr.size
  have c0 := hr.c0
  have c2 := hr.c2
  have hpl : plc ds r.req ≤ ds.length := plc_le _ _
  have HQ1 : Hid (∀ d, fnd ds r.req = some d → ∀ v w', Gr4 w.heap.size w' v ds → Below w.heap.size w w' → AdP w (addR ds r run) (.returned (.tuple #[v, .int .i64 1])) w') := fun d e v w' hg hb => by
    unfold addR
    rw [e]
    exact ⟨v, rfl, hg, hb⟩
  have HQ2 : Hid (fnd ds r.req = none → 30 ≤ n → ∀ v w', Gr4 w.heap.size w' v ds → Below w.heap.size w w' → AdP w (addR ds r run) (.returned (.tuple #[v, .int .i64 7])) w') := fun e h30 v w' hg hb => by
    unfold addR
    rw [e]
    dsimp only
    rw [if_pos (by omega)]
    exact ⟨v, rfl, hg, hb⟩
  have HQ3 : Hid (fnd ds r.req = none ∧ ¬ 30 ≤ n → ∀ v w', Gr4 (w.heap.size + 1) w' v (ds.take (plc ds r.req) ++ ⟨r.req, r.kind, keyB r, run⟩ :: ds.drop (plc ds r.req)) → Below w.heap.size w w' → AdP w (addR ds r run) (.returned (.tuple #[v, .int .i64 0])) w') := fun e v w' hg hb => by
    unfold addR
    rw [e.1]
    dsimp only
    rw [if_neg (by have := e.2; omega)]
    exact ⟨v, rfl, hg.lower (by omega), hb⟩
  generalize AdP w (addR ds r run) = Q at HQ1 HQ2 HQ3 ⊢
  have HNd : Hid (ds.length = n) := hn
  have HSd : Hid (n ≤ 500) := hs
  have HPl : Hid (plc ds r.req ≤ ds.length) := hpl
  have HG0 : Hid ((w.alloc (.cells cs 32)).heap[w.heap.size]? = some (.cells cs 32 (0, 0))) := heap_alloc_last w _
  have HB0 : Hid (Below w.heap.size w (w.alloc (.cells cs 32))) := bel1 _ _
  have HS0 : Hid ((w.alloc (.cells cs 32)).heap.size = w.heap.size + 1) := by show _ = _; simp
  obtain ⟨o, ho⟩ : ∃ o, o = fnd ds r.req := ⟨_, rfl⟩
  rw [← ho] at KF HQ1 HQ2 HQ3
  clear h hr hs hy ho hn hpl
  go_enter Try.func16, Try.ntmps16
  go_upto_region 1 with fail
  change Code.wp _ _ _ _ (w.alloc (.cells cs 32))
  generalize w.alloc (.cells cs 32) = W0 at HG0 HB0 HS0 ⊢
  go_wp2_with fail
  refine (KC.out _ HB0.out).mono ?_
  rintro e w1 ⟨v1, rfl, hg1, hb1⟩
  obtain ⟨ua, uc, e1⟩ := hg1.shape
  subst e1
  have HU1 : Hid (Gr4 W0.heap.size w1 (.slice ua ds.length uc) ds) := hg1
  have HB1 : Hid (Below w.heap.size w w1) := bel2 HB0.out hb1
  have HG1 : Hid (w1.heap[w.heap.size]? = some (.cells cs 32 (0, 0))) := row_below hb1 HG0.out
  have g1 : ∀ j, w1.cell? ⟨w.heap.size, j, none⟩ = cs[j]? := fun j => cell_of_row _ _ j cs 32 (0, 0) HG1.out
  clear hg1 hb1 KC
  generalize hm : ds.length = m at HU1
  have HM : Hid (ds.length = m) := hm
  clear hm
  go_wp2_with fail
  refine (KF.out _ HB1.out).mono ?_
  rintro e w2 ⟨hf1, hf2, hb2⟩
  have HU2 : Hid (Gr4 W0.heap.size w2 (.slice ua m uc) ds) := HU1.out.below hb2
  have HB2 : Hid (Below w.heap.size w w2) := bel2 HB1.out hb2
  have HG2 : Hid (w2.heap[w.heap.size]? = some (.cells cs 32 (0, 0))) := row_below hb2 HG1.out
  have n1 : (w2.alloc (.cells #[.string ⟨#[]⟩, .int .i64 0, .slice none 0 0, .int .i64 0] 37)).heap[w2.heap.size]? = some (.cells #[.string ⟨#[]⟩, .int .i64 0, .slice none 0 0, .int .i64 0] 37 (0, 0)) := heap_alloc_last w2 _
  clear hb2 g1 KF HU1
  cases o with
  | some d =>
    obtain ⟨p, c', rfl, _⟩ := hf1 d rfl
    clear hf1 hf2 KK KP
    have HU3 : Hid (Gr4 W0.heap.size (w2.alloc (.cells #[.string d.s, .int .i64 d.k, .slice p d.y.length c', .int .i64 d.r] 37)) (.slice ua m uc) ds) := HU2.out.below (bel1 w2 _)
    have HB3 : Hid (Below w.heap.size w (w2.alloc (.cells #[.string d.s, .int .i64 d.k, .slice p d.y.length c', .int .i64 d.r] 37))) := bel2 HB2.out (bel1 w2 _)
    go_upto_region 3 with (refine wpList_store_row rfl 37 _ _ rfl w2.heap.size _ rfl rfl 37 _ n1 info37s rfl (one4 _ _ _ _ _ _) ?_)
    rw [World.setRow_alloc_new]
    generalize w2.alloc (.cells #[.string d.s, .int .i64 d.k, .slice p d.y.length c', .int .i64 d.r] 37) = W at HU3 HB3 ⊢
    go_wp2_with fail
    exact HQ1.out d rfl _ _ (HU3.out.lower HB0.out.size) HB3.out
  | none =>
    obtain rfl := hf2 rfl
    clear hf1 hf2
    have HU : Hid (Gr4 W0.heap.size (w2.alloc (.cells #[.string ⟨#[]⟩, .int .i64 0, .slice none 0 0, .int .i64 0] 37)) (.slice ua m uc) ds) := HU2.out.below (bel1 w2 _)
    have HBW : Hid (Below w.heap.size w (w2.alloc (.cells #[.string ⟨#[]⟩, .int .i64 0, .slice none 0 0, .int .i64 0] 37))) := bel2 HB2.out (bel1 w2 _)
    have HG : Hid ((w2.alloc (.cells #[.string ⟨#[]⟩, .int .i64 0, .slice none 0 0, .int .i64 0] 37)).heap[w.heap.size]? = some (.cells cs 32 (0, 0))) := row_below (bel1 w2 _) HG2.out
    go_upto_region 3 with (refine wpList_store_row rfl 37 _ _ rfl w2.heap.size _ rfl rfl 37 _ n1 info37s rfl (one4 _ _ _ _ _ _) ?_)
    rw [World.setRow_alloc_new]
    have HW0 : Hid (W0.heap.size ≤ (w2.alloc (.cells #[.string ⟨#[]⟩, .int .i64 0, .slice none 0 0, .int .i64 0] 37)).heap.size) := by show _ ≤ _; have := HBW.out.size; have := HB2.out.size; have := lt_of_row HG.out; have := HS0.out; omega
    generalize w2.alloc (.cells #[.string ⟨#[]⟩, .int .i64 0, .slice none 0 0, .int .i64 0] 37) = W at HU HBW HG HW0 ⊢
    clear n1 HU2 HB2 HG2 HB1 HG1
    by_cases h30 : 30 ≤ n
    · have d30 : decide (30 ≤ (n : Int)) = true := decide_eq_true (by omega)
      have d31 : decide (30 ≤ n) = true := decide_eq_true h30
      have H30 : Hid (30 ≤ n) := h30
      clear h30
      go_wp2_with fail
      exact HQ2.out trivial H30.out _ _ (HU.out.lower HB0.out.size) HBW.out
    · have d30 : decide (30 ≤ (n : Int)) = false := decide_eq_false (by omega)
      have d31 : decide (30 ≤ n) = false := decide_eq_false h30
      have HNo : Hid (none = (none : Option Dn) ∧ ¬ 30 ≤ n) := ⟨rfl, h30⟩
      clear h30
      have HOc : Hid ((Value.slice ua m uc).ownBlock ≠ some w.heap.size) := fun e => by
        obtain ⟨cells, ho, _⟩ := HU.out
        have := (World.ownsRow.lt ho _ e).1
        have := HS0.out
        omega
      have HOn : Hid (∀ g, W.heap.size ≤ g → (Value.slice ua m uc).ownBlock ≠ some g) := fun g hg e => by
        obtain ⟨cells, ho, _⟩ := HU.out
        have := (World.ownsRow.lt ho _ e).2
        omega
      go_upto_region 7 with fail
      go_cut [11] (fun s11 wc => ∃ gn pk ck, s11 = .pointer (some ⟨gn, 0, none⟩) ∧ Hid (wc.heap[gn]? = some (.cells #[.string r.req, .int .i64 r.kind, .slice pk (keyB r).length ck, .int .i64 run] 37 (0, 0)) ∧ HN W.heap.size wc (.slice pk (keyB r).length ck) (keyB r) ∧ Below W.heap.size W wc ∧ W.heap.size ≤ gn))
      case first =>
        refine wp_region_held_drew (S := (fun w' => ∀ j, w'.cell? ⟨w.heap.size, j, none⟩ = cs[j]?)) (by kernel_rfl) (fun j => cell_of_row _ _ j cs 32 (0, 0) HG.out) (fun hHeld => ?_)
        change wpAnyH _ _ _ _ _ _ _ _ (World.drew _)
        refine wpAnyH_take (i := 0) (oi := { dst := some 27, op := Go.Op.fieldAddr 32 (Go.Operand.tmp 4) 2, type := 0, pos := "table.go:96", after := #[], guard := none }) (v := ?_) rfl (by kernel_rfl) (by kernel_rfl) (by kernel_rfl) (fun _ _ _ h => h) (Or.inl ⟨by rfl, ?_⟩) hHeld ?_
        rotate_left 1
        · (intro w hSw; (try dsimp only at hSw); go_simp <;> with_reducible rfl)
        simp only [Act.put, List.setIfInBounds_toArray, List.set_cons_zero, List.set_cons_succ]
        refine wpAnyH_take (i := 1) (oi := { dst := some 28, op := Go.Op.load 9 (Go.Operand.tmp 27), type := 9, pos := "table.go:96", after := #[{ on := 0, ground := Go.Ground.data }], guard := none }) (v := ?_) rfl (by kernel_rfl) (by kernel_rfl) (by kernel_rfl) (fun _ _ _ h => h) (Or.inl ⟨by rfl, ?_⟩) hHeld ?_
        rotate_left 1
        · (intro w hSw; (try dsimp only at hSw); go_simp <;> with_reducible rfl)
        simp only [Act.put, List.setIfInBounds_toArray, List.set_cons_zero, List.set_cons_succ]
        refine wpAnyH_take (i := 2) (oi := { dst := some 29, op := Go.Op.fieldAddr 32 (Go.Operand.tmp 4) 0, type := 0, pos := "table.go:96", after := #[], guard := none }) (v := ?_) rfl (by kernel_rfl) (by kernel_rfl) (by kernel_rfl) (fun _ _ _ h => h) (Or.inl ⟨by rfl, ?_⟩) hHeld ?_
        rotate_left 1
        · (intro w hSw; (try dsimp only at hSw); go_simp <;> with_reducible rfl)
        simp only [Act.put, List.setIfInBounds_toArray, List.set_cons_zero, List.set_cons_succ]
        refine wpAnyH_take (i := 3) (oi := { dst := some 30, op := Go.Op.load 3 (Go.Operand.tmp 29), type := 3, pos := "table.go:96", after := #[{ on := 2, ground := Go.Ground.data }], guard := none }) (v := ?_) rfl (by kernel_rfl) (by kernel_rfl) (by kernel_rfl) (fun _ _ _ h => h) (Or.inl ⟨by rfl, ?_⟩) hHeld ?_
        rotate_left 1
        · (intro w hSw; (try dsimp only at hSw); go_simp <;> with_reducible rfl)
        simp only [Act.put, List.setIfInBounds_toArray, List.set_cons_zero, List.set_cons_succ]
        refine wpAnyH_take (i := 6) (oi := { dst := some 33, op := Go.Op.move (Go.Operand.tmp 2), type := 3, pos := "table.go:96", after := #[], guard := none }) (v := ?_) rfl (by kernel_rfl) (by kernel_rfl) (by kernel_rfl) (fun _ _ _ h => h) (Or.inl ⟨by rfl, ?_⟩) hHeld ?_
        rotate_left 1
        · (intro w hSw; (try dsimp only at hSw); go_simp <;> with_reducible rfl)
        simp only [Act.put, List.setIfInBounds_toArray, List.set_cons_zero, List.set_cons_succ]
        refine wpAnyH_take (i := 4) (oi := { dst := some 31, op := Go.Op.load 32 (Go.Operand.tmp 4), type := 32, pos := "table.go:96", after := #[], guard := none }) (v := _) rfl (by kernel_rfl) (by kernel_rfl) (by kernel_rfl) (fun _ _ _ h => h) (yieldsIf_load_mid rfl 32 _ rfl w.heap.size 0 rfl cs.toList _ (fun w h => range0 h) Try.underlying32 rfl hi32l) hHeld ?_
        simp only [Act.put, List.setIfInBounds_toArray, List.set_cons_zero, List.set_cons_succ]
        refine wpAnyH_ready (rs := [5, 8]) (by kernel_rfl) (by simp) ?_
        refine AllReadyH.cons (o := { dst := some 32, op := Go.Op.call { callee := Go.Callee.value (Go.Operand.func 19), args := #[Go.Operand.tmp 31], argTypes := #[32] }, type := 35, pos := "table.go:96", after := #[{ on := 4, ground := Go.Ground.data }], guard := none }) rfl (fun K hK => ?_) (AllReadyH.cons (o := { dst := some 11, op := Go.Op.alloc 37, type := 0, pos := "table.go:96", after := #[], guard := none }) rfl (fun K hK => ?_) AllReadyH.nil)
        · skip
          go_simp
          refine Calls.mono (KK.out _ HBW.out.drew) ?_
          rintro e w4 ⟨v4, rfl, hh, hb⟩
          obtain ⟨pk, ck, ef⟩ := holds_form hh.1
          subst ef
          have HB4 : Hid (Below W.heap.size W w4) := bel2 (Below.refl _ W).drew hb
          have HG4 : Hid (w4.heap[w.heap.size]? = some (.cells cs 32 (0, 0))) := row_below hb HG.out
          have HH4 : Hid (HN W.heap.size w4 (.slice pk (keyB r).length ck) (keyB r)) := hh
          clear hh hb
          refine hK.out _ _ (fun j => cell_of_row _ _ j cs 32 (0, 0) HG4.out) (fun hHeld => ?_)
          clear hK K
          refine wpAnyH_take (i := 7) (oi := { dst := some 34, op := Go.Op.build 37 #[(0, Go.Operand.tmp 28), (1, Go.Operand.tmp 30), (2, Go.Operand.tmp 32), (3, Go.Operand.tmp 33)], type := 37, pos := "table.go:96", after := #[{ on := 1, ground := Go.Ground.data }, { on := 3, ground := Go.Ground.data }, { on := 5, ground := Go.Ground.data }, { on := 6, ground := Go.Ground.data }], guard := none }) (v := ?_) rfl (by kernel_rfl) (by kernel_rfl) (by kernel_rfl) (fun _ _ _ h => h) (Or.inl ⟨by rfl, ?_⟩) hHeld ?_
          rotate_left 1
          · (intro w hSw; (try dsimp only at hSw); go_simp <;> with_reducible rfl)
          simp only [Act.put, List.setIfInBounds_toArray, List.set_cons_zero, List.set_cons_succ]
          refine wpAnyH_ready (rs := [8]) (by kernel_rfl) (by simp) ?_
          refine AllReadyH.cons (o := { dst := some 11, op := Go.Op.alloc 37, type := 0, pos := "table.go:96", after := #[], guard := none }) rfl (fun K hK => ?_) AllReadyH.nil
          go_simp
          refine hK.out _ _ (fun j => cell_of_row _ _ j cs 32 (0, 0) (row_below (bel1 w4 _) HG4.out)) (fun hHeld => ?_)
          clear hK K
          have n4 : (w4.alloc (.cells #[.string ⟨#[]⟩, .int .i64 0, .slice none 0 0, .int .i64 0] 37)).heap[w4.heap.size]? = some (.cells #[.string ⟨#[]⟩, .int .i64 0, .slice none 0 0, .int .i64 0] 37 (0, 0)) := heap_alloc_last w4 _
          refine wpAnyH_ready (rs := [9]) (by kernel_rfl) (by simp) ?_
          refine AllReadyH.cons (o := { dst := none, op := Go.Op.store 37 (Go.Operand.tmp 11) (Go.Operand.tmp 34), type := 0, pos := "table.go:96", after := #[{ on := 8, ground := Go.Ground.data }, { on := 7, ground := Go.Ground.data }, { on := 5, ground := Go.Ground.chain }, { on := 0, ground := Go.Ground.phase }, { on := 1, ground := Go.Ground.phase }, { on := 2, ground := Go.Ground.phase }, { on := 3, ground := Go.Ground.phase }, { on := 4, ground := Go.Ground.phase }, { on := 5, ground := Go.Ground.phase }, { on := 6, ground := Go.Ground.phase }, { on := 7, ground := Go.Ground.phase }, { on := 8, ground := Go.Ground.phase }], guard := none }) rfl (fun K hK => ?_) AllReadyH.nil
          rw [if_pos (by rfl)]
          refine wp_store_row 37 _ _ rfl w4.heap.size #[.string r.req, .int .i64 r.kind, .slice pk (keyB r).length ck, .int .i64 run] rfl rfl 37 _ n4 info37s rfl (one4 _ _ _ _ _ _) ?_
          have HB5 : Hid (Below W.heap.size W ((w4.alloc (.cells #[.string ⟨#[]⟩, .int .i64 0, .slice none 0 0, .int .i64 0] 37)).setRow w4.heap.size #[.string r.req, .int .i64 r.kind, .slice pk (keyB r).length ck, .int .i64 run])) := below_setRow (bel2 HB4.out (bel1 w4 _)) HB4.out.size _
          have HG5 : Hid (((w4.alloc (.cells #[.string ⟨#[]⟩, .int .i64 0, .slice none 0 0, .int .i64 0] 37)).setRow w4.heap.size #[.string r.req, .int .i64 r.kind, .slice pk (keyB r).length ck, .int .i64 run]).heap[w.heap.size]? = some (.cells cs 32 (0, 0))) := row_below HB5.out HG.out
          refine hK.out _ _ (fun j => cell_of_row _ _ j cs 32 (0, 0) HG5.out) (fun hHeld => ?_)
          clear hK K
          simp only [Act.put]
          refine wpAnyH_done (by kernel_rfl) ?_ _
          go_wp2_with fail
          go_meet
          case rel => exact ⟨w4.heap.size, pk, ck, rfl, ⟨setRow_heap _ _ _ #[.string r.req, .int .i64 r.kind, .slice pk (keyB r).length ck, .int .i64 run] 37 (0, 0) n4, ⟨holds_kb (holds_below HH4.out.1 (bel1 w4 _)) (lt4 HH4.out) (KB.setRow _ _ _), HH4.out.2⟩, HB5.out, HB4.out.size⟩⟩
        · skip
          go_simp
          refine hK.out _ _ (fun j => cell_of_row _ _ j cs 32 (0, 0) (row_below (bel1 W _) HG.out)) (fun hHeld => ?_)
          clear hK K
          have n4 : ((W.alloc (.cells #[.string ⟨#[]⟩, .int .i64 0, .slice none 0 0, .int .i64 0] 37)).drew).heap[W.heap.size]? = some (.cells #[.string ⟨#[]⟩, .int .i64 0, .slice none 0 0, .int .i64 0] 37 (0, 0)) := heap_alloc_last W _
          have B1 : Hid (Below W.heap.size W ((W.alloc (.cells #[.string ⟨#[]⟩, .int .i64 0, .slice none 0 0, .int .i64 0] 37)).drew)) := (bel1 W _).drew
          change wpAnyH _ _ _ _ _ _ _ _ ((W.alloc (.cells #[.string ⟨#[]⟩, .int .i64 0, .slice none 0 0, .int .i64 0] 37)).drew)
          generalize (W.alloc (.cells #[.string ⟨#[]⟩, .int .i64 0, .slice none 0 0, .int .i64 0] 37)).drew = W4 at n4 B1 hHeld ⊢
          refine wpAnyH_ready (rs := [5]) (by kernel_rfl) (by simp) ?_
          refine AllReadyH.cons (o := { dst := some 32, op := Go.Op.call { callee := Go.Callee.value (Go.Operand.func 19), args := #[Go.Operand.tmp 31], argTypes := #[32] }, type := 35, pos := "table.go:96", after := #[{ on := 4, ground := Go.Ground.data }], guard := none }) rfl (fun K hK => ?_) AllReadyH.nil
          go_simp
          refine Calls.mono (KK.out _ (bel2 HBW.out B1.out)) ?_
          rintro e w4 ⟨v4, rfl, hh, hb⟩
          obtain ⟨pk, ck, ef⟩ := holds_form hh.1
          subst ef
          have HB4 : Hid (Below W.heap.size W w4) := bel2 B1.out hb
          have HG4 : Hid (w4.heap[w.heap.size]? = some (.cells cs 32 (0, 0))) := row_below (bel2 B1.out hb) HG.out
          have m4 := row_below hb n4
          have HS4 : Hid (W.heap.size < W4.heap.size) := lt_of_row n4
          have HH4 : Hid (HN W4.heap.size w4 (.slice pk (keyB r).length ck) (keyB r)) := hh
          clear hh hb
          refine hK.out _ _ (fun j => cell_of_row _ _ j cs 32 (0, 0) HG4.out) (fun hHeld => ?_)
          clear hK K
          refine wpAnyH_take (i := 7) (oi := { dst := some 34, op := Go.Op.build 37 #[(0, Go.Operand.tmp 28), (1, Go.Operand.tmp 30), (2, Go.Operand.tmp 32), (3, Go.Operand.tmp 33)], type := 37, pos := "table.go:96", after := #[{ on := 1, ground := Go.Ground.data }, { on := 3, ground := Go.Ground.data }, { on := 5, ground := Go.Ground.data }, { on := 6, ground := Go.Ground.data }], guard := none }) (v := ?_) rfl (by kernel_rfl) (by kernel_rfl) (by kernel_rfl) (fun _ _ _ h => h) (Or.inl ⟨by rfl, ?_⟩) hHeld ?_
          rotate_left 1
          · (intro w hSw; (try dsimp only at hSw); go_simp <;> with_reducible rfl)
          simp only [Act.put, List.setIfInBounds_toArray, List.set_cons_zero, List.set_cons_succ]
          refine wpAnyH_ready (rs := [9]) (by kernel_rfl) (by simp) ?_
          refine AllReadyH.cons (o := { dst := none, op := Go.Op.store 37 (Go.Operand.tmp 11) (Go.Operand.tmp 34), type := 0, pos := "table.go:96", after := #[{ on := 8, ground := Go.Ground.data }, { on := 7, ground := Go.Ground.data }, { on := 5, ground := Go.Ground.chain }, { on := 0, ground := Go.Ground.phase }, { on := 1, ground := Go.Ground.phase }, { on := 2, ground := Go.Ground.phase }, { on := 3, ground := Go.Ground.phase }, { on := 4, ground := Go.Ground.phase }, { on := 5, ground := Go.Ground.phase }, { on := 6, ground := Go.Ground.phase }, { on := 7, ground := Go.Ground.phase }, { on := 8, ground := Go.Ground.phase }], guard := none }) rfl (fun K hK => ?_) AllReadyH.nil
          rw [if_pos (by rfl)]
          refine wp_store_row 37 _ _ rfl W.heap.size #[.string r.req, .int .i64 r.kind, .slice pk (keyB r).length ck, .int .i64 run] rfl rfl 37 _ m4 info37s rfl (one4 _ _ _ _ _ _) ?_
          have HB5 : Hid (Below W.heap.size W (w4.setRow W.heap.size #[.string r.req, .int .i64 r.kind, .slice pk (keyB r).length ck, .int .i64 run])) := below_setRow HB4.out (Nat.le_refl _) _
          have HG5 : Hid ((w4.setRow W.heap.size #[.string r.req, .int .i64 r.kind, .slice pk (keyB r).length ck, .int .i64 run]).heap[w.heap.size]? = some (.cells cs 32 (0, 0))) := row_below HB5.out HG.out
          refine hK.out _ _ (fun j => cell_of_row _ _ j cs 32 (0, 0) HG5.out) (fun hHeld => ?_)
          clear hK K
          simp only [Act.put]
          refine wpAnyH_done (by kernel_rfl) ?_ _
          go_wp2_with fail
          go_meet
          case rel => exact ⟨W.heap.size, pk, ck, rfl, ⟨setRow_heap _ _ _ #[.string r.req, .int .i64 r.kind, .slice pk (keyB r).length ck, .int .i64 run] 37 (0, 0) m4, ⟨holds_kb HH4.out.1 (fun a m c e _ => by have := HH4.out.2 a m c e; have := HS4.out; omega) (KB.setRow _ _ _), fun a m c e => by have := HH4.out.2 a m c e; have := HS4.out; omega⟩, HB5.out, Nat.le_refl _⟩⟩
      case rest =>
        obtain ⟨gn, pk, ck, rfl, HC⟩ := hcut
        have HGc : Hid (wc.heap[w.heap.size]? = some (.cells cs 32 (0, 0))) := row_below HC.out.2.2.1 HG.out
        have KI : Hid (∀ (W' : World) vb, Below wc.heap.size wc W' → W'.heap[vb]? = some (.cells #[.string r.req, .int .i64 r.kind, .slice pk (keyB r).length ck, .int .i64 run] 37 (0, 0)) → wc.heap.size ≤ vb → Calls Try.prog 27 #[.slice ua m uc, .int .i64 (plc ds r.req : Nat), .slice (some ⟨vb, 0, none⟩) 1 1] W' fun e w' => ∃ v, e = .returned v ∧ Gr4 W0.heap.size w' v (ds.take (plc ds r.req) ++ ⟨r.req, r.kind, keyB r, run⟩ :: ds.drop (plc ds r.req)) ∧ Below W0.heap.size W' w' ∧ (∀ B, B < W'.heap.size → (Value.slice ua m uc).ownBlock ≠ some B → w'.heap[B]? = W'.heap[B]?)) := fun W' vb hB hv hge => by
          refine insert_calls W0.heap.size ds _ _ vb _ [.string r.req, .int .i64 r.kind, .slice pk (keyB r).length ck, .int .i64 run] W' ((HU.out.below HC.out.2.2.1).below hB) HPl.out (by have := HNd.out; have := HSd.out; omega) hv ⟨pk, ck, rfl, ((HC.out.2.1).below hB).hp (fun B h1 _ => ⟨by have := HW0.out; omega, HOn.out B h1⟩)⟩ (HOn.out vb (by have := HC.out.2.2.1.size; omega)) (by have := HW0.out; have := HC.out.2.2.1.size; have := hB.size; omega)
        rw [HS0.out] at KI
        clear KK
        go_upto_region 8 with fail
        refine wp_region_held_drew (S := (fun w' => (∀ j, w'.cell? ⟨w.heap.size, j, none⟩ = cs[j]?) ∧ w'.rangeAt gn 0 [.string r.req, .int .i64 r.kind, .slice pk (keyB r).length ck, .int .i64 run])) (by kernel_rfl) ⟨fun j => cell_of_row _ _ j cs 32 (0, 0) HGc.out, range0 (fun j => cell_of_row _ _ j _ 37 (0, 0) HC.out.1)⟩ (fun hHeld => ?_)
        change wpAnyH _ _ _ _ _ _ _ _ (World.drew _)
        refine wpAnyH_take (i := 0) (oi := { dst := some 35, op := Go.Op.move (Go.Operand.tmp 8), type := 22, pos := "table.go:97", after := #[], guard := none }) (v := ?_) rfl (by kernel_rfl) (by kernel_rfl) (by kernel_rfl) (fun _ _ _ h => h) (Or.inl ⟨by rfl, ?_⟩) hHeld ?_
        rotate_left 1
        · (intro w hSw; (try dsimp only at hSw); go_simp <;> with_reducible rfl)
        simp only [Act.put, List.setIfInBounds_toArray, List.set_cons_zero, List.set_cons_succ]
        refine wpAnyH_take (i := 1) (oi := { dst := some 36, op := Go.Op.move (Go.Operand.tmp 0), type := 22, pos := "table.go:97", after := #[], guard := none }) (v := ?_) rfl (by kernel_rfl) (by kernel_rfl) (by kernel_rfl) (fun _ _ _ h => h) (Or.inl ⟨by rfl, ?_⟩) hHeld ?_
        rotate_left 1
        · (intro w hSw; (try dsimp only at hSw); go_simp <;> with_reducible rfl)
        simp only [Act.put, List.setIfInBounds_toArray, List.set_cons_zero, List.set_cons_succ]
        refine wpAnyH_take (i := 2) (oi := { dst := some 37, op := Go.Op.fieldAddr 32 (Go.Operand.tmp 4) 2, type := 0, pos := "table.go:97", after := #[], guard := none }) (v := ?_) rfl (by kernel_rfl) (by kernel_rfl) (by kernel_rfl) (fun _ _ _ h => h) (Or.inl ⟨by rfl, ?_⟩) hHeld ?_
        rotate_left 1
        · (intro w hSw; (try dsimp only at hSw); go_simp <;> with_reducible rfl)
        simp only [Act.put, List.setIfInBounds_toArray, List.set_cons_zero, List.set_cons_succ]
        refine wpAnyH_take (i := 3) (oi := { dst := some 38, op := Go.Op.load 9 (Go.Operand.tmp 37), type := 9, pos := "table.go:97", after := #[{ on := 2, ground := Go.Ground.data }], guard := none }) (v := ?_) rfl (by kernel_rfl) (by kernel_rfl) (by kernel_rfl) (fun _ _ _ h => h) (Or.inl ⟨by rfl, ?_⟩) hHeld ?_
        rotate_left 1
        · (intro w hSw; (try dsimp only at hSw); go_simp <;> with_reducible rfl)
        simp only [Act.put, List.setIfInBounds_toArray, List.set_cons_zero, List.set_cons_succ]
        refine wpAnyH_take (i := 5) (oi := { dst := some 40, op := Go.Op.load 37 (Go.Operand.tmp 11), type := 37, pos := "table.go:97", after := #[], guard := none }) (v := _) rfl (by kernel_rfl) (by kernel_rfl) (by kernel_rfl) (fun _ _ _ h => h) (yieldsIf_load_mid rfl 37 _ rfl gn 0 rfl [.string r.req, .int .i64 r.kind, .slice pk (keyB r).length ck, .int .i64 run] _ (fun w h => h.2) Try.underlying37 rfl info37s) hHeld ?_
        simp only [Act.put, List.setIfInBounds_toArray, List.set_cons_zero, List.set_cons_succ]
        refine wpAnyH_ready (rs := [4, 6]) (by kernel_rfl) (by simp) ?_
        refine AllReadyH.cons (o := { dst := some 39, op := Go.Op.call { callee := Go.Callee.value (Go.Operand.func 28), args := #[Go.Operand.tmp 36, Go.Operand.tmp 38], argTypes := #[22, 9] }, type := 3, pos := "table.go:97", after := #[{ on := 1, ground := Go.Ground.data }, { on := 3, ground := Go.Ground.data }], guard := none }) rfl (fun K hK => ?_) (AllReadyH.cons (o := { dst := some 41, op := Go.Op.buildSlice 22 1 #[(0, Go.Operand.tmp 40)], type := 22, pos := "table.go:97", after := #[{ on := 5, ground := Go.Ground.data }], guard := none }) rfl (fun K hK => ?_) AllReadyH.nil)
        · skip
          go_simp
          refine Calls.mono (KP.out _ (bel2 HBW.out (HC.out.2.2.1.drew))) ?_
          rintro e w5 ⟨rfl, hb⟩
          have HB5 : Hid (Below wc.heap.size wc w5) := bel2 (Below.refl _ wc).drew hb
          have HG5 : Hid (w5.heap[w.heap.size]? = some (.cells cs 32 (0, 0))) := row_below hb HGc.out
          have HN5 : Hid (w5.heap[gn]? = some (.cells #[.string r.req, .int .i64 r.kind, .slice pk (keyB r).length ck, .int .i64 run] 37 (0, 0))) := row_below hb HC.out.1
          clear hb
          refine hK.out _ _ ⟨fun j => cell_of_row _ _ j cs 32 (0, 0) HG5.out, range0 (fun j => cell_of_row _ _ j _ 37 (0, 0) HN5.out)⟩ (fun hHeld => ?_)
          clear hK K
          refine wpAnyH_ready (rs := [6]) (by kernel_rfl) (by simp) ?_
          refine AllReadyH.cons (o := { dst := some 41, op := Go.Op.buildSlice 22 1 #[(0, Go.Operand.tmp 40)], type := 22, pos := "table.go:97", after := #[{ on := 5, ground := Go.Ground.data }], guard := none }) rfl (fun K hK => ?_) AllReadyH.nil
          go_simp
          refine hK.out _ _ ⟨fun j => cell_of_row _ _ j cs 32 (0, 0) (row_below (bel1 w5 _) HG5.out), range0 (fun j => cell_of_row _ _ j _ 37 (0, 0) (row_below (bel1 w5 _) HN5.out))⟩ (fun hHeld => ?_)
          clear hK K
          refine wpAnyH_ready (rs := [7]) (by kernel_rfl) (by simp) ?_
          refine AllReadyH.cons (o := { dst := some 42, op := Go.Op.call { callee := Go.Callee.value (Go.Operand.func 27), args := #[Go.Operand.tmp 35, Go.Operand.tmp 39, Go.Operand.tmp 41], argTypes := #[22, 3, 22] }, type := 22, pos := "table.go:97", after := #[{ on := 0, ground := Go.Ground.data }, { on := 4, ground := Go.Ground.data }, { on := 6, ground := Go.Ground.data }, { on := 4, ground := Go.Ground.chain }], guard := none }) rfl (fun K hK => ?_) AllReadyH.nil
          go_simp
          refine Calls.mono (KI.out (w5.alloc (.cells #[.string r.req, .int .i64 r.kind, .slice pk (keyB r).length ck, .int .i64 run] 37)) w5.heap.size (bel2 HB5.out (bel1 w5 _)) (heap_alloc_last w5 _) HB5.out.size) ?_
          rintro e w6 ⟨v6, rfl, hg, hb, hkp⟩
          have HR : Hid (Gr4 (w.heap.size + 1) w6 v6 _) := hg
          have HB6 : Hid (Below w.heap.size w w6) := (bel2 (bel2 HBW.out HC.out.2.2.1) (bel2 HB5.out (bel1 w5 _))).trans (hb.mono (by omega))
          have HG6 : Hid (w6.heap[w.heap.size]? = some (.cells cs 32 (0, 0))) := (hkp _ (lt_of_row (row_below (bel1 w5 (.cells #[.string r.req, .int .i64 r.kind, .slice pk (keyB r).length ck, .int .i64 run] 37)) HG5.out)) HOc.out).trans (row_below (bel1 w5 (.cells #[.string r.req, .int .i64 r.kind, .slice pk (keyB r).length ck, .int .i64 run] 37)) HG5.out)
          have HN6 : Hid (w6.heap[gn]? = some (.cells #[.string r.req, .int .i64 r.kind, .slice pk (keyB r).length ck, .int .i64 run] 37 (0, 0))) := (hkp _ (lt_of_row (row_below (bel1 w5 (.cells #[.string r.req, .int .i64 r.kind, .slice pk (keyB r).length ck, .int .i64 run] 37)) HN5.out)) (HOn.out gn HC.out.2.2.2)).trans (row_below (bel1 w5 (.cells #[.string r.req, .int .i64 r.kind, .slice pk (keyB r).length ck, .int .i64 run] 37)) HN5.out)
          clear hg hb hkp
          refine hK.out _ _ ⟨fun j => cell_of_row _ _ j cs 32 (0, 0) HG6.out, range0 (fun j => cell_of_row _ _ j _ 37 (0, 0) HN6.out)⟩ (fun hHeld => ?_)
          clear hK K
          refine wpAnyH_take (i := 8) (oi := { dst := some 6, op := Go.Op.assign (Go.Operand.tmp 42), type := 22, pos := "table.go:97", after := #[{ on := 7, ground := Go.Ground.data }, { on := 7, ground := Go.Ground.chain }, { on := 0, ground := Go.Ground.phase }, { on := 1, ground := Go.Ground.phase }, { on := 2, ground := Go.Ground.phase }, { on := 3, ground := Go.Ground.phase }, { on := 4, ground := Go.Ground.phase }, { on := 5, ground := Go.Ground.phase }, { on := 6, ground := Go.Ground.phase }, { on := 7, ground := Go.Ground.phase }], guard := none }) (v := ?_) rfl (by kernel_rfl) (by kernel_rfl) (by kernel_rfl) (fun _ _ _ h => h) (Or.inl ⟨by rfl, ?_⟩) hHeld ?_
          rotate_left 1
          · (intro w hSw; (try dsimp only at hSw); go_simp <;> with_reducible rfl)
          simp only [Act.put, List.setIfInBounds_toArray, List.set_cons_zero, List.set_cons_succ]
          refine wpAnyH_take (i := 9) (oi := { dst := some 7, op := Go.Op.assign (Go.Operand.const (Go.Value.int Go.IntKind.i64 0)), type := 40, pos := "table.go:97", after := #[{ on := 8, ground := Go.Ground.chain }, { on := 0, ground := Go.Ground.phase }, { on := 1, ground := Go.Ground.phase }, { on := 2, ground := Go.Ground.phase }, { on := 3, ground := Go.Ground.phase }, { on := 4, ground := Go.Ground.phase }, { on := 5, ground := Go.Ground.phase }, { on := 6, ground := Go.Ground.phase }, { on := 7, ground := Go.Ground.phase }, { on := 8, ground := Go.Ground.phase }], guard := none }) (v := ?_) rfl (by kernel_rfl) (by kernel_rfl) (by kernel_rfl) (fun _ _ _ h => h) (Or.inl ⟨by rfl, ?_⟩) hHeld ?_
          rotate_left 1
          · (intro w hSw; (try dsimp only at hSw); go_simp <;> with_reducible rfl)
          simp only [Act.put, List.setIfInBounds_toArray, List.set_cons_zero, List.set_cons_succ]
          refine wpAnyH_done (by kernel_rfl) ?_ _
          go_wp2_with fail
          exact HQ3.out HNo.out _ _ HR.out HB6.out
        · skip
          go_simp
          refine hK.out _ _ ⟨fun j => cell_of_row _ _ j cs 32 (0, 0) (row_below (bel1 wc _) HGc.out), range0 (fun j => cell_of_row _ _ j _ 37 (0, 0) (row_below (bel1 wc _) HC.out.1))⟩ (fun hHeld => ?_)
          clear hK K
          have m5 : ((wc.alloc (.cells #[.string r.req, .int .i64 r.kind, .slice pk (keyB r).length ck, .int .i64 run] 37)).drew).heap[wc.heap.size]? = some (.cells #[.string r.req, .int .i64 r.kind, .slice pk (keyB r).length ck, .int .i64 run] 37 (0, 0)) := heap_alloc_last wc _
          have B5 : Hid (Below wc.heap.size wc ((wc.alloc (.cells #[.string r.req, .int .i64 r.kind, .slice pk (keyB r).length ck, .int .i64 run] 37)).drew)) := (bel1 wc _).drew
          change wpAnyH _ _ _ _ _ _ _ _ ((wc.alloc (.cells #[.string r.req, .int .i64 r.kind, .slice pk (keyB r).length ck, .int .i64 run] 37)).drew)
          generalize (wc.alloc (.cells #[.string r.req, .int .i64 r.kind, .slice pk (keyB r).length ck, .int .i64 run] 37)).drew = W5 at m5 B5 hHeld ⊢
          refine wpAnyH_ready (rs := [4]) (by kernel_rfl) (by simp) ?_
          refine AllReadyH.cons (o := { dst := some 39, op := Go.Op.call { callee := Go.Callee.value (Go.Operand.func 28), args := #[Go.Operand.tmp 36, Go.Operand.tmp 38], argTypes := #[22, 9] }, type := 3, pos := "table.go:97", after := #[{ on := 1, ground := Go.Ground.data }, { on := 3, ground := Go.Ground.data }], guard := none }) rfl (fun K hK => ?_) AllReadyH.nil
          go_simp
          refine Calls.mono (KP.out _ (bel2 (bel2 HBW.out HC.out.2.2.1) B5.out)) ?_
          rintro e w5 ⟨rfl, hb⟩
          have HB5 : Hid (Below wc.heap.size wc w5) := bel2 B5.out hb
          have HG5 : Hid (w5.heap[w.heap.size]? = some (.cells cs 32 (0, 0))) := row_below HB5.out HGc.out
          have HN5 : Hid (w5.heap[gn]? = some (.cells #[.string r.req, .int .i64 r.kind, .slice pk (keyB r).length ck, .int .i64 run] 37 (0, 0))) := row_below HB5.out HC.out.1
          have m6 := row_below hb m5
          clear hb
          refine hK.out _ _ ⟨fun j => cell_of_row _ _ j cs 32 (0, 0) HG5.out, range0 (fun j => cell_of_row _ _ j _ 37 (0, 0) HN5.out)⟩ (fun hHeld => ?_)
          clear hK K
          refine wpAnyH_ready (rs := [7]) (by kernel_rfl) (by simp) ?_
          refine AllReadyH.cons (o := { dst := some 42, op := Go.Op.call { callee := Go.Callee.value (Go.Operand.func 27), args := #[Go.Operand.tmp 35, Go.Operand.tmp 39, Go.Operand.tmp 41], argTypes := #[22, 3, 22] }, type := 22, pos := "table.go:97", after := #[{ on := 0, ground := Go.Ground.data }, { on := 4, ground := Go.Ground.data }, { on := 6, ground := Go.Ground.data }, { on := 4, ground := Go.Ground.chain }], guard := none }) rfl (fun K hK => ?_) AllReadyH.nil
          go_simp
          refine Calls.mono (KI.out w5 wc.heap.size HB5.out m6 (Nat.le_refl _)) ?_
          rintro e w6 ⟨v6, rfl, hg, hb, hkp⟩
          have HR : Hid (Gr4 (w.heap.size + 1) w6 v6 _) := hg
          have HB6 : Hid (Below w.heap.size w w6) := (bel2 (bel2 HBW.out HC.out.2.2.1) HB5.out).trans (hb.mono (by omega))
          have HG6 : Hid (w6.heap[w.heap.size]? = some (.cells cs 32 (0, 0))) := (hkp _ (lt_of_row HG5.out) HOc.out).trans HG5.out
          have HN6 : Hid (w6.heap[gn]? = some (.cells #[.string r.req, .int .i64 r.kind, .slice pk (keyB r).length ck, .int .i64 run] 37 (0, 0))) := (hkp _ (lt_of_row HN5.out) (HOn.out gn HC.out.2.2.2)).trans HN5.out
          clear hg hb hkp
          refine hK.out _ _ ⟨fun j => cell_of_row _ _ j cs 32 (0, 0) HG6.out, range0 (fun j => cell_of_row _ _ j _ 37 (0, 0) HN6.out)⟩ (fun hHeld => ?_)
          clear hK K
          refine wpAnyH_take (i := 8) (oi := { dst := some 6, op := Go.Op.assign (Go.Operand.tmp 42), type := 22, pos := "table.go:97", after := #[{ on := 7, ground := Go.Ground.data }, { on := 7, ground := Go.Ground.chain }, { on := 0, ground := Go.Ground.phase }, { on := 1, ground := Go.Ground.phase }, { on := 2, ground := Go.Ground.phase }, { on := 3, ground := Go.Ground.phase }, { on := 4, ground := Go.Ground.phase }, { on := 5, ground := Go.Ground.phase }, { on := 6, ground := Go.Ground.phase }, { on := 7, ground := Go.Ground.phase }], guard := none }) (v := ?_) rfl (by kernel_rfl) (by kernel_rfl) (by kernel_rfl) (fun _ _ _ h => h) (Or.inl ⟨by rfl, ?_⟩) hHeld ?_
          rotate_left 1
          · (intro w hSw; (try dsimp only at hSw); go_simp <;> with_reducible rfl)
          simp only [Act.put, List.setIfInBounds_toArray, List.set_cons_zero, List.set_cons_succ]
          refine wpAnyH_take (i := 9) (oi := { dst := some 7, op := Go.Op.assign (Go.Operand.const (Go.Value.int Go.IntKind.i64 0)), type := 40, pos := "table.go:97", after := #[{ on := 8, ground := Go.Ground.chain }, { on := 0, ground := Go.Ground.phase }, { on := 1, ground := Go.Ground.phase }, { on := 2, ground := Go.Ground.phase }, { on := 3, ground := Go.Ground.phase }, { on := 4, ground := Go.Ground.phase }, { on := 5, ground := Go.Ground.phase }, { on := 6, ground := Go.Ground.phase }, { on := 7, ground := Go.Ground.phase }, { on := 8, ground := Go.Ground.phase }], guard := none }) (v := ?_) rfl (by kernel_rfl) (by kernel_rfl) (by kernel_rfl) (fun _ _ _ h => h) (Or.inl ⟨by rfl, ?_⟩) hHeld ?_
          rotate_left 1
          · (intro w hSw; (try dsimp only at hSw); go_simp <;> with_reducible rfl)
          simp only [Act.put, List.setIfInBounds_toArray, List.set_cons_zero, List.set_cons_succ]
          refine wpAnyH_done (by kernel_rfl) ?_ _
          go_wp2_with fail
          exact HQ3.out HNo.out _ _ HR.out HB6.out
end Go.Proofs.Ytlcgjehepalmcaa
