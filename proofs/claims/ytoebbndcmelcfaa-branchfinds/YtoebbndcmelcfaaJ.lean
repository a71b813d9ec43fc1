/- The walk of BranchAfter. -/
import Derived.Test.YtoebbndcmelcfaaI
namespace Go.Proofs.Ytoebbndcmelcfaa
open Go.ChangeAt Go.ChangeShapes Go.Deep Go.RowKit Go.WideShapes
/-- The places of the events of the kind. -/
def sel (hs : List Rw) (kind : Int) (N : Nat) : List Nat := (List.range N).filter fun i => decide ((rx hs i).k = kind)
theorem fnd_sel (hs : List Rw) (kind : Int) (N : Nat) : fnd hs kind (List.range N) = (sel hs kind N).map fun (i : Nat) => (i : Int) + 1 := rfl
theorem aft_sel {hs : List Rw} {ys : List Ev} (hk : ∀ i, (rx hs i).k = (ex ys i).k) (id kind : Int) (N : Nat) : aft ys id kind (List.range N) = ((sel hs kind N).filter fun (i : Nat) => decide (id < (i : Int) + 1)).map (ex ys) := by
  unfold aft sel
  rw [List.filter_filter]
  congr 1
  apply List.filter_congr
  intro i _
  rw [hk i, Bool.decide_and]
theorem aft_zero {hs : List Rw} {ys : List Ev} (hk : ∀ i, (rx hs i).k = (ex ys i).k) (kind : Int) (N : Nat) : aft ys 0 kind (List.range N) = (sel hs kind N).map (ex ys) := by
  rw [aft_sel hk]
  congr 1
  apply List.filter_eq_self.2
  intro i _
  simp
theorem sel_lt {hs : List Rw} {kind : Int} {N j p : Nat} (h : (sel hs kind N)[j]? = some p) : p < N := by
  have := List.mem_of_getElem? h
  unfold sel at this
  exact List.mem_range.1 (List.mem_filter.1 this).1
theorem sel_len (hs : List Rw) (kind : Int) (N : Nat) : (sel hs kind N).length ≤ N := by
  have := List.length_filter_le (fun i => decide ((rx hs i).k = kind)) (List.range N)
  rw [List.length_range] at this
  exact this
theorem sel_inc {hs : List Rw} {kind : Int} {N i j p q : Nat} (hij : i < j) (hp : (sel hs kind N)[i]? = some p) (hq : (sel hs kind N)[j]? = some q) : p < q := by
  have hw : (sel hs kind N).Pairwise (· < ·) := List.Pairwise.filter _ List.pairwise_lt_range
  obtain ⟨h1, rfl⟩ := List.getElem?_eq_some_iff.1 hp
  obtain ⟨h2, rfl⟩ := List.getElem?_eq_some_iff.1 hq
  exact List.pairwise_iff_getElem.1 hw i j h1 h2 hij
/-- How many of these are behind id. -/
def lat (id : Int) (s : List Nat) : Nat := (s.filter fun (i : Nat) => decide (id < (i : Int) + 1)).length
theorem lat_hit {id : Int} {s : List Nat} {j p : Nat} (h : s[j]? = some p) (hd : id < (p : Int) + 1) : lat id (s.take (j + 1)) = lat id (s.take j) + 1 := by
  unfold lat
  rw [List.take_add_one, h, List.filter_append]
  simp [hd]
theorem lat_miss {id : Int} {s : List Nat} {j p : Nat} (h : s[j]? = some p) (hd : ¬ id < (p : Int) + 1) : lat id (s.take (j + 1)) = lat id (s.take j) := by
  unfold lat
  rw [List.take_add_one, h, List.filter_append]
  have : decide (id < (p : Int) + 1) = false := decide_eq_false hd
  simp [this]
theorem lat_le (id : Int) (s : List Nat) (j : Nat) : lat id (s.take j) ≤ j := by
  unfold lat
  refine Nat.le_trans (List.length_filter_le _ _) ?_
  rw [List.length_take]
  omega
theorem rsame_true (N : Nat) (r1 r2 : Rw) (y : Ev) (w : World) (h1 : IsE w N r1 y) (h2 : IsE w N r2 y) :
    Calls Try.prog 20 #[.agg #[.int .i64 r1.k, .int .i64 r1.t, .int .i64 r1.n, .int .i64 r1.d, .string r1.s, .int .i64 r1.vk, .int .i64 r1.vx, .int .u64 r1.vb, .string r1.vs, .slice r1.la r1.ll r1.lc, .int .i64 r1.f, .int .u64 (r1.c : Int), .int .i64 r1.m], .agg #[.int .i64 r2.k, .int .i64 r2.t, .int .i64 r2.n, .int .i64 r2.d, .string r2.s, .int .i64 r2.vk, .int .i64 r2.vx, .int .u64 r2.vb, .string r2.vs, .slice r2.la r2.ll r2.lc, .int .i64 r2.f, .int .u64 (r2.c : Int), .int .i64 r2.m]] w fun e w' => e = .returned (.bool true) ∧ Below w.heap.size w w' := by
  obtain ⟨tv, e1, i1⟩ := h1
  obtain ⟨tv2, e2, i2⟩ := h2
  rw [e1] at e2
  simp only [Rw.ev, Ev.mk.injEq] at e2
  refine (evrsame_calls N tv tv2 r1.k r1.t r1.n r1.d r1.s r1.vk r1.vx r1.vb r1.vs r1.la r1.ll r1.lc r1.f r1.c r1.m r2.k r2.t r2.n r2.d r2.s r2.vk r2.vx r2.vb r2.vs r2.la r2.ll r2.lc r2.f r2.c r2.m w i1 i2).mono ?_
  rintro e w' ⟨⟨b, rfl, hb⟩, hbl⟩
  have : b = true := hb.2 e2
  subst this
  exact ⟨rfl, hbl⟩
theorem seq_fin (a : Nat) (b : Nat) (h : a = b) : Value.bool ((a : Int) == (b : Int)) = .bool true := by rw [h]; simp
set_option maxHeartbeats 4000000 in
set_option maxRecDepth 100000 in
theorem after_walk (a : Option Addr) (c NN : Nat) (hs : List Rw) (ys : List Ev) (N : Nat) (hN : hs.length = N) (hNc : N ≤ 200) (id kind : Int) (w : World) (hH : Hh w NN a hs ys) :
    Calls Try.prog 5 #[.slice a N c, .int .i64 kind, .int .i64 id] w fun e w' => e = .returned (.bool true) ∧ Below w.heap.size w w' := by
  have hmix : Try.prog.follows .mixedOrders = true := by kernel_rfl
  have HH : Hid (Hh w NN a hs ys) := hH
  have HN : Hid (hs.length = N) := hN
  have hk : ∀ i, (rx hs i).k = (ex ys i).k := fun i => isE_k (hH.isE i)
  have HFw : Hid (Calls Try.prog 6 #[.slice a N c] w _) := few_calls a N c w
  have HFi : Hid (Calls Try.prog 12 #[.slice a N c, .int .i64 kind] w _) := find_calls a c hs N hN hNc kind w hH.row
  have e0 := aft_zero hk kind N
  have eI := aft_sel hk id kind N
  rw [fnd_sel] at HFi
  have HA0 : Hid (∀ W, Below w.heap.size w W → Calls Try.prog 14 #[.slice a N c, .int .i64 0, .int .i64 kind] W fun e W' => ∃ v, e = .returned v ∧ Es (W.heap.size + 1 + 1) NN W' v ((sel hs kind N).map (ex ys)) ∧ Below W.heap.size W W') := fun W hW => by rw [← e0]; exact after_calls a c NN hs ys N hN hNc 0 kind W (hH.below hW)
  have HAI : Hid (∀ W, Below w.heap.size w W → Calls Try.prog 14 #[.slice a N c, .int .i64 id, .int .i64 kind] W fun e W' => ∃ v, e = .returned v ∧ Es (W.heap.size + 1 + 1) NN W' v (((sel hs kind N).filter fun (i : Nat) => decide (id < (i : Int) + 1)).map (ex ys)) ∧ Below W.heap.size W W') := fun W hW => by rw [← eI]; exact after_calls a c NN hs ys N hN hNc id kind W (hH.below hW)
  have HL : Hid (N ≤ 200) := hNc
  have hfd : decide ((N : Int) ≤ 200) = true := decide_eq_true (by omega)
  rw [hfd] at HFw
  have HSL : Hid (∀ j p, (sel hs kind N)[j]? = some p → p < N) := fun j p h => sel_lt h
  have HSI : Hid (∀ i j p q, i < j → (sel hs kind N)[i]? = some p → (sel hs kind N)[j]? = some q → p < q) := fun i j p q => sel_inc
  have hsl := sel_len hs kind N
  generalize sel hs kind N = s at HFi HA0 HAI HSL HSI hsl
  clear hk e0 eI hfd hH hN hNc
  go_enter Try.func5, Try.ntmps5
  go_wp2_with fail
  refine HFw.out.mono ?_
  rintro e w1 ⟨rfl, hw⟩
  have hw' := hw.symm
  subst hw'
  clear hw HFw
  go_wp2_with fail
  refine HFi.out.mono ?_
  rintro e w1 ⟨v, rfl, ho, hb⟩
  rw [List.length_map] at ho
  have hir := ir_of (by rw [List.length_map]; exact ho)
  obtain ⟨va, vc, rfl, hvi⟩ := hir
  have HVI : Hid (∀ (i : Nat) z, (s.map fun (i : Nat) => (i : Int) + 1)[i]? = some z → ∃ B o, va = some ⟨B, o, none⟩ ∧ w1.cell? ⟨B, o + i, none⟩ = some (.int .i64 z)) := hvi
  have HB1 : Hid (Below w.heap.size w w1) := hb
  rw [List.length_map]
  clear ho hvi hb HFi
  go_wp2_with fail
  refine (HA0.out w1 HB1.out).mono ?_
  rintro e w2 ⟨v2, rfl, hes, hb⟩
  obtain ⟨la, lc, rs, rfl, hlc, hrl, hre, hie⟩ := hes.rows
  rw [List.length_map] at hrl hlc ⊢
  have HRE : Hid (RowE w2 la rs) := hre
  have HIE : Hid (∀ i, IsE w2 NN (rx rs i) (ex (s.map (ex ys)) i)) := hie
  have HRL : Hid (rs.length = s.length) := hrl
  have HB12 : Hid (Below w1.heap.size w1 w2) := hb
  have HB2 : Hid (Below w.heap.size w w2) := bel2 HB1.out hb
  generalize hm : s.length = m at HRL hsl hlc ⊢
  have HM : Hid (s.length = m) := hm
  have hmm : ((m : Int) != (m : Int)) = false := by simp
  have HSl : Hid (m ≤ N) := hsl
  clear hes hb hre hie hlc hrl HA0 hm hsl
  go_wp2_with fail
  go_loopw [9, 10, 11, 29] (fun q _ _ i wr => ∃ j : Nat, j ≤ m ∧ i = .int .i64 (j : Int) ∧ q = .int .i64 ((lat id (s.take j) : Nat) : Int) ∧ Hid (Below w2.heap.size w2 wr)) (fun _ _ _ i _ => m - (intOf i).toNat)
  case atStart => exact ⟨0, Nat.zero_le _, rfl, rfl, Below.refl _ _⟩
  case round =>
    obtain ⟨j, hj, rfl, rfl, HBr⟩ := hrel
    by_cases hlt : j < m
    · obtain ⟨p, hp⟩ : ∃ p, s[j]? = some p := ⟨_, List.getElem?_eq_getElem (by rw [HM.out]; exact hlt)⟩
      have hpN := HSL.out j p hp
      obtain ⟨Bi, oi, rfl, hid⟩ := HVI.out j ((p : Int) + 1) (by rw [List.getElem?_map, hp]; rfl)
      have hidw := cellB (cellB hid HB12.out) HBr.out
      obtain ⟨r1, hr1⟩ : ∃ r, hs[p]? = some r := ⟨_, List.getElem?_eq_getElem (by rw [HN.out]; exact hpN)⟩
      obtain ⟨r2, hr2⟩ : ∃ r, rs[j]? = some r := ⟨_, List.getElem?_eq_getElem (by rw [HRL.out]; exact hlt)⟩
      obtain ⟨B, o, rfl, hat1⟩ := HH.out.row p r1 hr1
      obtain ⟨B2, o2, rfl, hat2⟩ := HRE.out j r2 hr2
      have HA : Hid (AtR wr B (o + p * 13) r1) := (hat1.below HB2.out).below HBr.out
      have HC : Hid (AtR wr B2 (o2 + j * 13) r2) := hat2.below HBr.out
      have q1 := HH.out.isE p
      rw [rx_some hr1] at q1
      have q2 := HIE.out j
      rw [rx_some hr2, ex_some (show (s.map (ex ys))[j]? = some (ex ys p) by rw [List.getElem?_map, hp]; rfl)] at q2
      have KS : Hid (∀ W, Below wr.heap.size wr W → Calls Try.prog 20 #[.agg #[.int .i64 r1.k, .int .i64 r1.t, .int .i64 r1.n, .int .i64 r1.d, .string r1.s, .int .i64 r1.vk, .int .i64 r1.vx, .int .u64 r1.vb, .string r1.vs, .slice r1.la r1.ll r1.lc, .int .i64 r1.f, .int .u64 (r1.c : Int), .int .i64 r1.m], .agg #[.int .i64 r2.k, .int .i64 r2.t, .int .i64 r2.n, .int .i64 r2.d, .string r2.s, .int .i64 r2.vk, .int .i64 r2.vx, .int .u64 r2.vb, .string r2.vs, .slice r2.la r2.ll r2.lc, .int .i64 r2.f, .int .u64 (r2.c : Int), .int .i64 r2.m]] W fun e w' => e = .returned (.bool true) ∧ Below W.heap.size W w') := fun W hW => rsame_true NN r1 r2 (ex ys p) W (((q1.below HB2.out).below HBr.out).below hW) ((q2.below HBr.out).below hW)
      obtain ⟨a0, a1, a2, a3, a4, a5, a6, a7, a8, a9, a10, a11, a12⟩ := HA.out
      obtain ⟨b0, b1, b2, b3, b4, b5, b6, b7, b8, b9, b10, b11, b12⟩ := HC.out
      obtain ⟨Z, hZ⟩ : ∃ Z : Int, Z = (p : Int) + 1 := ⟨_, rfl⟩
      rw [← hZ] at hidw
      have z1 : decide (Z < 1) = false := decide_eq_false (by omega)
      have z2 : decide ((N : Int) < Z) = false := decide_eq_false (by omega)
      have z3 : IntKind.i64.wrap (Z - 1) = (p : Int) := by rw [IntKind.wrap_i64]; have := HL.out; omega
      have z4 : wrap64 (Z - 1) = (p : Int) := by unfold wrap64; have := HL.out; omega
      have HZ : Hid (Z = (p : Int) + 1) := hZ
      have HP : Hid (s[j]? = some p) := hp
      have hlat := lat_le id s j
      have HLT : Hid (lat id (s.take j) ≤ j ∧ m ≤ 200) := ⟨hlat, by have := HL.out; have := HSl.out; omega⟩
      have hpn : (p : Int) < (N : Int) := by omega
      have hjm : (j : Int) < (m : Int) := by omega
      clear hZ hp hid hat1 hat2 q1 q2 hr1 hr2 hlat
      have HR : Hid (∀ W, Below wr.heap.size wr W → Below w2.heap.size w2 W) := fun W hW => bel2 HBr.out hW
      have fin1 : Hid (id < Z → lat id (s.take (j + 1)) = lat id (s.take j) + 1) := fun h => lat_hit HP.out (by rw [← HZ.out]; exact h)
      have fin0 : Hid (Z ≤ id → lat id (s.take (j + 1)) = lat id (s.take j)) := fun h => lat_miss HP.out (by rw [← HZ.out]; exact Int.not_lt.2 h)
      generalize lat id (s.take j) = q at HLT fin1 fin0
      have HW : Hid (wrap64 ((j : Int) + 1) = ((j + 1 : Nat) : Int)) := wr1 hlt (by have := HLT.out; omega)
      have HQ1 : Hid (wrap64 ((q : Int) + 1) = ((q + 1 : Nat) : Int)) := wr1 (N := q + 1) (by omega) (by have := HLT.out; omega)
      have n1 : ∀ k : Nat, (k : Int) + 1 = ((k + 1 : Nat) : Int) := fun k => (Int.natCast_succ k).symm
      have HN1 : Hid (∀ k : Nat, (k : Int) + 1 = ((k + 1 : Nat) : Int)) := n1
      clear n1
      by_cases hj0 : j = 0
      · have d0 : decide (0 < (j : Int)) = false := decide_eq_false (by omega)
        have d0n : decide (0 < j) = false := decide_eq_false (by omega)
        have d0m : ¬ 0 < j := by omega
        have HJ0 : Hid (j = 0) := hj0
        clear hj0
        go_wp2_with fail
        refine wp_region_held_drew (S := (fun w' => w'.cell? ⟨B, o + p * 13, none⟩ = some (.int .i64 r1.k) ∧ w'.cell? ⟨B, o + p * 13 + 1, none⟩ = some (.int .i64 r1.t) ∧ w'.cell? ⟨B, o + p * 13 + 2, none⟩ = some (.int .i64 r1.n) ∧ w'.cell? ⟨B, o + p * 13 + 3, none⟩ = some (.int .i64 r1.d) ∧ w'.cell? ⟨B, o + p * 13 + 4, none⟩ = some (.string r1.s) ∧ w'.cell? ⟨B, o + p * 13 + 5, none⟩ = some (.int .i64 r1.vk) ∧ w'.cell? ⟨B, o + p * 13 + 6, none⟩ = some (.int .i64 r1.vx) ∧ w'.cell? ⟨B, o + p * 13 + 7, none⟩ = some (.int .u64 r1.vb) ∧ w'.cell? ⟨B, o + p * 13 + 8, none⟩ = some (.string r1.vs) ∧ w'.cell? ⟨B, o + p * 13 + 9, none⟩ = some (.slice r1.la r1.ll r1.lc) ∧ w'.cell? ⟨B, o + p * 13 + 10, none⟩ = some (.int .i64 r1.f) ∧ w'.cell? ⟨B, o + p * 13 + 11, none⟩ = some (.int .u64 (r1.c : Int)) ∧ w'.cell? ⟨B, o + p * 13 + 12, none⟩ = some (.int .i64 r1.m) ∧ w'.cell? ⟨B2, o2 + j * 13, none⟩ = some (.int .i64 r2.k) ∧ w'.cell? ⟨B2, o2 + j * 13 + 1, none⟩ = some (.int .i64 r2.t) ∧ w'.cell? ⟨B2, o2 + j * 13 + 2, none⟩ = some (.int .i64 r2.n) ∧ w'.cell? ⟨B2, o2 + j * 13 + 3, none⟩ = some (.int .i64 r2.d) ∧ w'.cell? ⟨B2, o2 + j * 13 + 4, none⟩ = some (.string r2.s) ∧ w'.cell? ⟨B2, o2 + j * 13 + 5, none⟩ = some (.int .i64 r2.vk) ∧ w'.cell? ⟨B2, o2 + j * 13 + 6, none⟩ = some (.int .i64 r2.vx) ∧ w'.cell? ⟨B2, o2 + j * 13 + 7, none⟩ = some (.int .u64 r2.vb) ∧ w'.cell? ⟨B2, o2 + j * 13 + 8, none⟩ = some (.string r2.vs) ∧ w'.cell? ⟨B2, o2 + j * 13 + 9, none⟩ = some (.slice r2.la r2.ll r2.lc) ∧ w'.cell? ⟨B2, o2 + j * 13 + 10, none⟩ = some (.int .i64 r2.f) ∧ w'.cell? ⟨B2, o2 + j * 13 + 11, none⟩ = some (.int .u64 (r2.c : Int)) ∧ w'.cell? ⟨B2, o2 + j * 13 + 12, none⟩ = some (.int .i64 r2.m))) hmix (⟨a0, a1, a2, a3, a4, a5, a6, a7, a8, a9, a10, a11, a12, b0, b1, b2, b3, b4, b5, b6, b7, b8, b9, b10, b11, b12⟩) (fun hHeld => ?_)
        refine wpAnyH_take (i := 0) (oi := { dst := some 34, op := Go.Op.move (Go.Operand.tmp 11), type := 3, pos := "law.go:83", after := #[], guard := none }) (v := ?_) rfl (by kernel_rfl) (by kernel_rfl) (by kernel_rfl) (fun _ _ _ h => h) (Or.inl ⟨by rfl, ?_⟩) hHeld ?_
        rotate_left 1
        · (intro w hSw; (try dsimp only at hSw); go_simp <;> with_reducible rfl)
        simp only [Act.put, List.setIfInBounds_toArray, List.set_cons_zero, List.set_cons_succ]
        refine wpAnyH_take (i := 1) (oi := { dst := some 35, op := Go.Op.binOp Go.BinOp.lss 3 (Go.Operand.tmp 34) (Go.Operand.const (Go.Value.int Go.IntKind.i64 1)) 3, type := 4, pos := "law.go:83", after := #[{ on := 0, ground := Go.Ground.data }], guard := none }) (v := ?_) rfl (by kernel_rfl) (by kernel_rfl) (by kernel_rfl) (fun _ _ _ h => h) (Or.inl ⟨by rfl, ?_⟩) hHeld ?_
        rotate_left 1
        · (intro w hSw; (try dsimp only at hSw); go_simp <;> with_reducible rfl)
        simp only [Act.put, List.setIfInBounds_toArray, List.set_cons_zero, List.set_cons_succ]
        refine wpAnyH_take (i := 2) (oi := { dst := some 36, op := Go.Op.move (Go.Operand.tmp 35), type := 4, pos := "law.go:83", after := #[{ on := 1, ground := Go.Ground.data }], guard := none }) (v := ?_) rfl (by kernel_rfl) (by kernel_rfl) (by kernel_rfl) (fun _ _ _ h => h) (Or.inl ⟨by rfl, ?_⟩) hHeld ?_
        rotate_left 1
        · (intro w hSw; (try dsimp only at hSw); go_simp <;> with_reducible rfl)
        simp only [Act.put, List.setIfInBounds_toArray, List.set_cons_zero, List.set_cons_succ]
        refine wpAnyH_take (i := 3) (oi := { dst := some 37, op := Go.Op.move (Go.Operand.tmp 11), type := 3, pos := "law.go:83", after := #[{ on := 2, ground := Go.Ground.guard }], guard := some (2, false) }) (v := ?_) rfl (by kernel_rfl) (by kernel_rfl) (by kernel_rfl) (fun _ _ _ h => h) (Or.inl ⟨by rfl, ?_⟩) hHeld ?_
        rotate_left 1
        · (intro w hSw; (try dsimp only at hSw); go_simp <;> with_reducible rfl)
        simp only [Act.put, List.setIfInBounds_toArray, List.set_cons_zero, List.set_cons_succ]
        refine wpAnyH_take (i := 4) (oi := { dst := some 38, op := Go.Op.move (Go.Operand.tmp 0), type := 22, pos := "law.go:83", after := #[{ on := 2, ground := Go.Ground.guard }], guard := some (2, false) }) (v := ?_) rfl (by kernel_rfl) (by kernel_rfl) (by kernel_rfl) (fun _ _ _ h => h) (Or.inl ⟨by rfl, ?_⟩) hHeld ?_
        rotate_left 1
        · (intro w hSw; (try dsimp only at hSw); go_simp <;> with_reducible rfl)
        simp only [Act.put, List.setIfInBounds_toArray, List.set_cons_zero, List.set_cons_succ]
        refine wpAnyH_take (i := 5) (oi := { dst := some 39, op := Go.Op.call { callee := Go.Callee.builtin Go.Builtin.len, args := #[Go.Operand.tmp 38], argTypes := #[22] }, type := 3, pos := "law.go:83", after := #[{ on := 4, ground := Go.Ground.data }, { on := 2, ground := Go.Ground.guard }], guard := some (2, false) }) (v := ?_) rfl (by kernel_rfl) (by kernel_rfl) (by kernel_rfl) (fun _ _ _ h => h) (Or.inl ⟨by rfl, ?_⟩) hHeld ?_
        rotate_left 1
        · (intro w hSw; (try dsimp only at hSw); go_simp <;> with_reducible rfl)
        simp only [Act.put, List.setIfInBounds_toArray, List.set_cons_zero, List.set_cons_succ]
        refine wpAnyH_take (i := 6) (oi := { dst := some 40, op := Go.Op.binOp Go.BinOp.gtr 3 (Go.Operand.tmp 37) (Go.Operand.tmp 39) 3, type := 4, pos := "law.go:83", after := #[{ on := 3, ground := Go.Ground.data }, { on := 5, ground := Go.Ground.data }, { on := 2, ground := Go.Ground.guard }], guard := some (2, false) }) (v := ?_) rfl (by kernel_rfl) (by kernel_rfl) (by kernel_rfl) (fun _ _ _ h => h) (Or.inl ⟨by rfl, ?_⟩) hHeld ?_
        rotate_left 1
        · (intro w hSw; (try dsimp only at hSw); go_simp <;> with_reducible rfl)
        simp only [Act.put, List.setIfInBounds_toArray, List.set_cons_zero, List.set_cons_succ]
        refine wpAnyH_take (i := 7) (oi := { dst := some 41, op := Go.Op.pick (Go.Operand.tmp 36) (Go.Operand.const (Go.Value.bool true)) (Go.Operand.tmp 40), type := 4, pos := "law.go:83", after := #[{ on := 2, ground := Go.Ground.data }, { on := 6, ground := Go.Ground.data }], guard := none }) (v := ?_) rfl (by kernel_rfl) (by kernel_rfl) (by kernel_rfl) (fun _ _ _ h => h) (Or.inl ⟨by rfl, ?_⟩) hHeld ?_
        rotate_left 1
        · (intro w hSw; (try dsimp only at hSw); go_simp <;> with_reducible rfl)
        simp only [Act.put, List.setIfInBounds_toArray, List.set_cons_zero, List.set_cons_succ]
        refine wpAnyH_take (i := 8) (oi := { dst := some 42, op := Go.Op.move (Go.Operand.tmp 41), type := 4, pos := "law.go:83", after := #[{ on := 7, ground := Go.Ground.data }, { on := 2, ground := Go.Ground.chain }], guard := none }) (v := ?_) rfl (by kernel_rfl) (by kernel_rfl) (by kernel_rfl) (fun _ _ _ h => h) (Or.inl ⟨by rfl, ?_⟩) hHeld ?_
        rotate_left 1
        · (intro w hSw; (try dsimp only at hSw); go_simp <;> with_reducible rfl)
        simp only [Act.put, List.setIfInBounds_toArray, List.set_cons_zero, List.set_cons_succ]
        refine wpAnyH_take (i := 9) (oi := { dst := some 43, op := Go.Op.move (Go.Operand.tmp 0), type := 22, pos := "law.go:83", after := #[{ on := 8, ground := Go.Ground.guard }], guard := some (8, false) }) (v := ?_) rfl (by kernel_rfl) (by kernel_rfl) (by kernel_rfl) (fun _ _ _ h => h) (Or.inl ⟨by rfl, ?_⟩) hHeld ?_
        rotate_left 1
        · (intro w hSw; (try dsimp only at hSw); go_simp <;> with_reducible rfl)
        simp only [Act.put, List.setIfInBounds_toArray, List.set_cons_zero, List.set_cons_succ]
        refine wpAnyH_take (i := 10) (oi := { dst := some 44, op := Go.Op.move (Go.Operand.tmp 11), type := 3, pos := "law.go:83", after := #[{ on := 8, ground := Go.Ground.guard }], guard := some (8, false) }) (v := ?_) rfl (by kernel_rfl) (by kernel_rfl) (by kernel_rfl) (fun _ _ _ h => h) (Or.inl ⟨by rfl, ?_⟩) hHeld ?_
        rotate_left 1
        · (intro w hSw; (try dsimp only at hSw); go_simp <;> with_reducible rfl)
        simp only [Act.put, List.setIfInBounds_toArray, List.set_cons_zero, List.set_cons_succ]
        refine wpAnyH_take (i := 11) (oi := { dst := some 45, op := Go.Op.binOp Go.BinOp.sub 3 (Go.Operand.tmp 44) (Go.Operand.const (Go.Value.int Go.IntKind.i64 1)) 3, type := 3, pos := "law.go:83", after := #[{ on := 10, ground := Go.Ground.data }, { on := 8, ground := Go.Ground.guard }], guard := some (8, false) }) (v := ?_) rfl (by kernel_rfl) (by kernel_rfl) (by kernel_rfl) (fun _ _ _ h => h) (Or.inl ⟨by rfl, ?_⟩) hHeld ?_
        rotate_left 1
        · (intro w hSw; (try dsimp only at hSw); go_simp <;> with_reducible rfl)
        simp only [Act.put, List.setIfInBounds_toArray, List.set_cons_zero, List.set_cons_succ]
        refine wpAnyH_take (i := 12) (oi := { dst := some 46, op := Go.Op.indexAddr 22 (Go.Operand.tmp 43) (Go.Operand.tmp 45), type := 0, pos := "law.go:83", after := #[{ on := 9, ground := Go.Ground.data }, { on := 11, ground := Go.Ground.data }, { on := 8, ground := Go.Ground.guard }], guard := some (8, false) }) (v := ?_) rfl (by kernel_rfl) (by kernel_rfl) (by kernel_rfl) (fun _ _ _ h => h) (Or.inl ⟨by rfl, ?_⟩) hHeld ?_
        rotate_left 1
        · (intro w hSw; (try dsimp only at hSw); go_simp <;> with_reducible rfl)
        simp only [Act.put, List.setIfInBounds_toArray, List.set_cons_zero, List.set_cons_succ]
        refine wpAnyH_take (i := 13) (oi := { dst := some 47, op := Go.Op.load 40 (Go.Operand.tmp 46), type := 40, pos := "law.go:83", after := #[{ on := 12, ground := Go.Ground.data }, { on := 8, ground := Go.Ground.guard }], guard := some (8, false) }) (v := ?_) rfl (by kernel_rfl) (by kernel_rfl) (by kernel_rfl) (fun _ _ _ h => h) (Or.inl ⟨by rfl, ?_⟩) hHeld ?_
        rotate_left 1
        · (intro w hSw; (try dsimp only at hSw); go_simp <;> with_reducible rfl)
        simp only [Act.put, List.setIfInBounds_toArray, List.set_cons_zero, List.set_cons_succ]
        refine wpAnyH_take (i := 14) (oi := { dst := some 48, op := Go.Op.move (Go.Operand.tmp 8), type := 22, pos := "law.go:83", after := #[{ on := 8, ground := Go.Ground.guard }], guard := some (8, false) }) (v := ?_) rfl (by kernel_rfl) (by kernel_rfl) (by kernel_rfl) (fun _ _ _ h => h) (Or.inl ⟨by rfl, ?_⟩) hHeld ?_
        rotate_left 1
        · (intro w hSw; (try dsimp only at hSw); go_simp <;> with_reducible rfl)
        simp only [Act.put, List.setIfInBounds_toArray, List.set_cons_zero, List.set_cons_succ]
        refine wpAnyH_take (i := 15) (oi := { dst := some 49, op := Go.Op.move (Go.Operand.tmp 10), type := 3, pos := "law.go:83", after := #[{ on := 8, ground := Go.Ground.guard }], guard := some (8, false) }) (v := ?_) rfl (by kernel_rfl) (by kernel_rfl) (by kernel_rfl) (fun _ _ _ h => h) (Or.inl ⟨by rfl, ?_⟩) hHeld ?_
        rotate_left 1
        · (intro w hSw; (try dsimp only at hSw); go_simp <;> with_reducible rfl)
        simp only [Act.put, List.setIfInBounds_toArray, List.set_cons_zero, List.set_cons_succ]
        refine wpAnyH_take (i := 16) (oi := { dst := some 50, op := Go.Op.indexAddr 22 (Go.Operand.tmp 48) (Go.Operand.tmp 49), type := 0, pos := "law.go:83", after := #[{ on := 14, ground := Go.Ground.data }, { on := 15, ground := Go.Ground.data }, { on := 8, ground := Go.Ground.guard }], guard := some (8, false) }) (v := ?_) rfl (by kernel_rfl) (by kernel_rfl) (by kernel_rfl) (fun _ _ _ h => h) (Or.inl ⟨by rfl, ?_⟩) hHeld ?_
        rotate_left 1
        · (intro w hSw; (try dsimp only at hSw); go_simp <;> with_reducible rfl)
        simp only [Act.put, List.setIfInBounds_toArray, List.set_cons_zero, List.set_cons_succ]
        refine wpAnyH_take (i := 17) (oi := { dst := some 51, op := Go.Op.load 40 (Go.Operand.tmp 50), type := 40, pos := "law.go:83", after := #[{ on := 16, ground := Go.Ground.data }, { on := 8, ground := Go.Ground.guard }], guard := some (8, false) }) (v := ?_) rfl (by kernel_rfl) (by kernel_rfl) (by kernel_rfl) (fun _ _ _ h => h) (Or.inl ⟨by rfl, ?_⟩) hHeld ?_
        rotate_left 1
        · (intro w hSw; (try dsimp only at hSw); go_simp <;> with_reducible rfl)
        simp only [Act.put, List.setIfInBounds_toArray, List.set_cons_zero, List.set_cons_succ]
        refine wpAnyH_ready (rs := [18]) (by kernel_rfl) (by simp) ?_
        refine AllReadyH.cons (o := { dst := some 52, op := Go.Op.call { callee := Go.Callee.value (Go.Operand.func 20), args := #[Go.Operand.tmp 47, Go.Operand.tmp 51], argTypes := #[40, 40] }, type := 4, pos := "law.go:83", after := #[{ on := 13, ground := Go.Ground.data }, { on := 17, ground := Go.Ground.data }, { on := 8, ground := Go.Ground.chain }, { on := 8, ground := Go.Ground.guard }], guard := some (8, false) }) rfl (fun K hK => ?_) AllReadyH.nil
        go_simp
        refine (KS.out _ (Below.refl _ wr).drew).mono ?_
        rintro e w3 ⟨rfl, hb3⟩
        have T3 : Hid (Below wr.heap.size wr w3) := bel2 (Below.refl _ wr).drew hb3
        obtain ⟨a1_0, a1_1, a1_2, a1_3, a1_4, a1_5, a1_6, a1_7, a1_8, a1_9, a1_10, a1_11, a1_12⟩ := HA.out.below T3.out
        obtain ⟨b1_0, b1_1, b1_2, b1_3, b1_4, b1_5, b1_6, b1_7, b1_8, b1_9, b1_10, b1_11, b1_12⟩ := HC.out.below T3.out
        clear hb3 hHeld a0 a1 a2 a3 a4 a5 a6 a7 a8 a9 a10 a11 a12 b0 b1 b2 b3 b4 b5 b6 b7 b8 b9 b10 b11 b12
        refine hK.out _ _ ⟨a1_0, a1_1, a1_2, a1_3, a1_4, a1_5, a1_6, a1_7, a1_8, a1_9, a1_10, a1_11, a1_12, b1_0, b1_1, b1_2, b1_3, b1_4, b1_5, b1_6, b1_7, b1_8, b1_9, b1_10, b1_11, b1_12⟩ (fun hHeld => ?_)
        clear hK K
        refine wpAnyH_take (i := 19) (oi := { dst := some 53, op := Go.Op.unOp Go.UnOp.not 4 (Go.Operand.tmp 52), type := 4, pos := "law.go:83", after := #[{ on := 18, ground := Go.Ground.data }, { on := 8, ground := Go.Ground.guard }], guard := some (8, false) }) (v := ?_) rfl (by kernel_rfl) (by kernel_rfl) (by kernel_rfl) (fun _ _ _ h => h) (Or.inl ⟨by rfl, ?_⟩) hHeld ?_
        rotate_left 1
        · (intro w hSw; (try dsimp only at hSw); go_simp <;> with_reducible rfl)
        simp only [Act.put, List.setIfInBounds_toArray, List.set_cons_zero, List.set_cons_succ]
        refine wpAnyH_take (i := 20) (oi := { dst := some 54, op := Go.Op.pick (Go.Operand.tmp 42) (Go.Operand.const (Go.Value.bool true)) (Go.Operand.tmp 53), type := 4, pos := "law.go:83", after := #[{ on := 8, ground := Go.Ground.data }, { on := 19, ground := Go.Ground.data }], guard := none }) (v := ?_) rfl (by kernel_rfl) (by kernel_rfl) (by kernel_rfl) (fun _ _ _ h => h) (Or.inl ⟨by rfl, ?_⟩) hHeld ?_
        rotate_left 1
        · (intro w hSw; (try dsimp only at hSw); go_simp <;> with_reducible rfl)
        simp only [Act.put, List.setIfInBounds_toArray, List.set_cons_zero, List.set_cons_succ]
        refine wpAnyH_take (i := 21) (oi := { dst := some 55, op := Go.Op.move (Go.Operand.tmp 54), type := 4, pos := "law.go:83", after := #[{ on := 20, ground := Go.Ground.data }, { on := 18, ground := Go.Ground.chain }], guard := none }) (v := ?_) rfl (by kernel_rfl) (by kernel_rfl) (by kernel_rfl) (fun _ _ _ h => h) (Or.inl ⟨by rfl, ?_⟩) hHeld ?_
        rotate_left 1
        · (intro w hSw; (try dsimp only at hSw); go_simp <;> with_reducible rfl)
        simp only [Act.put, List.setIfInBounds_toArray, List.set_cons_zero, List.set_cons_succ]
        refine wpAnyH_take (i := 22) (oi := { dst := some 56, op := Go.Op.move (Go.Operand.tmp 10), type := 3, pos := "law.go:83", after := #[{ on := 21, ground := Go.Ground.guard }], guard := some (21, false) }) (v := ?_) rfl (by kernel_rfl) (by kernel_rfl) (by kernel_rfl) (fun _ _ _ h => h) (Or.inl ⟨by rfl, ?_⟩) hHeld ?_
        rotate_left 1
        · (intro w hSw; (try dsimp only at hSw); go_simp <;> with_reducible rfl)
        simp only [Act.put, List.setIfInBounds_toArray, List.set_cons_zero, List.set_cons_succ]
        refine wpAnyH_take (i := 23) (oi := { dst := some 57, op := Go.Op.binOp Go.BinOp.gtr 3 (Go.Operand.tmp 56) (Go.Operand.const (Go.Value.int Go.IntKind.i64 0)) 3, type := 4, pos := "law.go:83", after := #[{ on := 22, ground := Go.Ground.data }, { on := 21, ground := Go.Ground.guard }], guard := some (21, false) }) (v := ?_) rfl (by kernel_rfl) (by kernel_rfl) (by kernel_rfl) (fun _ _ _ h => h) (Or.inl ⟨by rfl, ?_⟩) hHeld ?_
        rotate_left 1
        · (intro w hSw; (try dsimp only at hSw); go_simp <;> with_reducible rfl)
        simp only [Act.put, List.setIfInBounds_toArray, List.set_cons_zero, List.set_cons_succ]
        refine wpAnyH_take (i := 24) (oi := { dst := some 58, op := Go.Op.move (Go.Operand.tmp 57), type := 4, pos := "law.go:83", after := #[{ on := 23, ground := Go.Ground.data }, { on := 21, ground := Go.Ground.chain }, { on := 21, ground := Go.Ground.guard }], guard := some (21, false) }) (v := ?_) rfl (by kernel_rfl) (by kernel_rfl) (by kernel_rfl) (fun _ _ _ h => h) (Or.inl ⟨by rfl, ?_⟩) hHeld ?_
        rotate_left 1
        · (intro w hSw; (try dsimp only at hSw); go_simp <;> with_reducible rfl)
        simp only [Act.put, List.setIfInBounds_toArray, List.set_cons_zero, List.set_cons_succ]
        refine wpAnyH_take (i := 25) (oi := { dst := some 59, op := Go.Op.move (Go.Operand.tmp 11), type := 3, pos := "law.go:83", after := #[{ on := 24, ground := Go.Ground.guard }], guard := some (24, true) }) (v := undef) rfl (by kernel_rfl) (by kernel_rfl) (by kernel_rfl) (fun _ _ _ h => h) (Or.inr ⟨by rfl, rfl⟩) hHeld ?_
        simp only [Act.put, List.setIfInBounds_toArray, List.set_cons_zero, List.set_cons_succ]
        refine wpAnyH_take (i := 26) (oi := { dst := some 60, op := Go.Op.move (Go.Operand.tmp 7), type := 28, pos := "law.go:83", after := #[{ on := 24, ground := Go.Ground.guard }], guard := some (24, true) }) (v := undef) rfl (by kernel_rfl) (by kernel_rfl) (by kernel_rfl) (fun _ _ _ h => h) (Or.inr ⟨by rfl, rfl⟩) hHeld ?_
        simp only [Act.put, List.setIfInBounds_toArray, List.set_cons_zero, List.set_cons_succ]
        refine wpAnyH_take (i := 27) (oi := { dst := some 61, op := Go.Op.move (Go.Operand.tmp 10), type := 3, pos := "law.go:83", after := #[{ on := 24, ground := Go.Ground.guard }], guard := some (24, true) }) (v := undef) rfl (by kernel_rfl) (by kernel_rfl) (by kernel_rfl) (fun _ _ _ h => h) (Or.inr ⟨by rfl, rfl⟩) hHeld ?_
        simp only [Act.put, List.setIfInBounds_toArray, List.set_cons_zero, List.set_cons_succ]
        refine wpAnyH_take (i := 28) (oi := { dst := some 62, op := Go.Op.binOp Go.BinOp.sub 3 (Go.Operand.tmp 61) (Go.Operand.const (Go.Value.int Go.IntKind.i64 1)) 3, type := 3, pos := "law.go:83", after := #[{ on := 27, ground := Go.Ground.data }, { on := 24, ground := Go.Ground.guard }], guard := some (24, true) }) (v := undef) rfl (by kernel_rfl) (by kernel_rfl) (by kernel_rfl) (fun _ _ _ h => h) (Or.inr ⟨by rfl, rfl⟩) hHeld ?_
        simp only [Act.put, List.setIfInBounds_toArray, List.set_cons_zero, List.set_cons_succ]
        refine wpAnyH_take (i := 29) (oi := { dst := some 63, op := Go.Op.indexAddr 28 (Go.Operand.tmp 60) (Go.Operand.tmp 62), type := 0, pos := "law.go:83", after := #[{ on := 26, ground := Go.Ground.data }, { on := 28, ground := Go.Ground.data }, { on := 24, ground := Go.Ground.guard }], guard := some (24, true) }) (v := undef) rfl (by kernel_rfl) (by kernel_rfl) (by kernel_rfl) (fun _ _ _ h => h) (Or.inr ⟨by rfl, rfl⟩) hHeld ?_
        simp only [Act.put, List.setIfInBounds_toArray, List.set_cons_zero, List.set_cons_succ]
        refine wpAnyH_take (i := 30) (oi := { dst := some 64, op := Go.Op.load 3 (Go.Operand.tmp 63), type := 3, pos := "law.go:83", after := #[{ on := 29, ground := Go.Ground.data }, { on := 24, ground := Go.Ground.guard }], guard := some (24, true) }) (v := undef) rfl (by kernel_rfl) (by kernel_rfl) (by kernel_rfl) (fun _ _ _ h => h) (Or.inr ⟨by rfl, rfl⟩) hHeld ?_
        simp only [Act.put, List.setIfInBounds_toArray, List.set_cons_zero, List.set_cons_succ]
        refine wpAnyH_take (i := 31) (oi := { dst := some 65, op := Go.Op.binOp Go.BinOp.leq 3 (Go.Operand.tmp 59) (Go.Operand.tmp 64) 3, type := 4, pos := "law.go:83", after := #[{ on := 25, ground := Go.Ground.data }, { on := 30, ground := Go.Ground.data }, { on := 24, ground := Go.Ground.guard }], guard := some (24, true) }) (v := undef) rfl (by kernel_rfl) (by kernel_rfl) (by kernel_rfl) (fun _ _ _ h => h) (Or.inr ⟨by rfl, rfl⟩) hHeld ?_
        simp only [Act.put, List.setIfInBounds_toArray, List.set_cons_zero, List.set_cons_succ]
        refine wpAnyH_take (i := 32) (oi := { dst := some 66, op := Go.Op.pick (Go.Operand.tmp 58) (Go.Operand.tmp 65) (Go.Operand.const (Go.Value.bool false)), type := 4, pos := "law.go:83", after := #[{ on := 24, ground := Go.Ground.data }, { on := 31, ground := Go.Ground.data }, { on := 21, ground := Go.Ground.guard }], guard := some (21, false) }) (v := ?_) rfl (by kernel_rfl) (by kernel_rfl) (by kernel_rfl) (fun _ _ _ h => h) (Or.inl ⟨by rfl, ?_⟩) hHeld ?_
        rotate_left 1
        · (intro w hSw; (try dsimp only at hSw); go_simp <;> with_reducible rfl)
        simp only [Act.put, List.setIfInBounds_toArray, List.set_cons_zero, List.set_cons_succ]
        refine wpAnyH_take (i := 33) (oi := { dst := some 67, op := Go.Op.pick (Go.Operand.tmp 55) (Go.Operand.const (Go.Value.bool true)) (Go.Operand.tmp 66), type := 4, pos := "law.go:83", after := #[{ on := 21, ground := Go.Ground.data }, { on := 32, ground := Go.Ground.data }], guard := none }) (v := ?_) rfl (by kernel_rfl) (by kernel_rfl) (by kernel_rfl) (fun _ _ _ h => h) (Or.inl ⟨by rfl, ?_⟩) hHeld ?_
        rotate_left 1
        · (intro w hSw; (try dsimp only at hSw); go_simp <;> with_reducible rfl)
        simp only [Act.put, List.setIfInBounds_toArray, List.set_cons_zero, List.set_cons_succ]
        refine wpAnyH_done (by kernel_rfl) ?_ _
        clear a1_0 a1_1 a1_2 a1_3 a1_4 a1_5 a1_6 a1_7 a1_8 a1_9 a1_10 a1_11 a1_12 b1_0 b1_1 b1_2 b1_3 b1_4 b1_5 b1_6 b1_7 b1_8 b1_9 b1_10 b1_11 b1_12
        by_cases hd : id < Z
        · have hd' : decide (id < Z) = true := decide_eq_true hd
          have HQ := fin1.out hd
          have HQQ : Hid (lat id (s.take (j + 1)) = q + 1) := HQ
          clear HQ hd
          go_wp2_with fail
          exact ⟨⟨j + 1, hlt, by first | rw [HW.out] | rw [HN1.out], by rw [HQQ.out] <;> first | done | rw [HQ1.out] | rw [HN1.out], HR.out _ T3.out⟩, by first | exact meas hlt HW.out | exact meas hlt (HN1.out j)⟩
        · have hd' : decide (id < Z) = false := decide_eq_false hd
          have HQQ : Hid (lat id (s.take (j + 1)) = q) := fin0.out (Int.not_lt.1 hd)
          clear hd
          go_wp2_with fail
          exact ⟨⟨j + 1, hlt, by first | rw [HW.out] | rw [HN1.out], by rw [HQQ.out] <;> first | done | rw [HQ1.out] | rw [HN1.out], HR.out _ T3.out⟩, by first | exact meas hlt HW.out | exact meas hlt (HN1.out j)⟩
      · obtain ⟨jm, hjm1⟩ : ∃ jm, j = jm + 1 := ⟨j - 1, by omega⟩
        obtain ⟨p', hp'⟩ : ∃ p', s[jm]? = some p' := ⟨_, List.getElem?_eq_getElem (by rw [HM.out]; omega)⟩
        have hinc := HSI.out jm j p' p (by omega) hp' HP.out
        obtain ⟨Bi', oi', hbi, hid'⟩ := HVI.out jm ((p' : Int) + 1) (by rw [List.getElem?_map, hp']; rfl)
        cases hbi
        have hi0 := cellB (cellB hid' HB12.out) HBr.out
        obtain ⟨Z', hZ'⟩ : ∃ Z' : Int, Z' = (p' : Int) + 1 := ⟨_, rfl⟩
        rw [← hZ'] at hi0
        have HI0 : Hid (wr.cell? ⟨Bi, oi + jm, none⟩ = some (.int .i64 Z')) := hi0
        have d0 : decide (0 < (j : Int)) = true := decide_eq_true (by omega)
        have d0n : decide (0 < j) = true := decide_eq_true (by omega)
        have d0m : 0 < j := by omega
        have d1 : decide (Z ≤ Z') = false := decide_eq_false (by have := HZ.out; omega)
        have d2 : IntKind.i64.wrap ((j : Int) - 1) = (jm : Int) := by rw [IntKind.wrap_i64]; have := HLT.out; omega
        have d3 : wrap64 ((j : Int) - 1) = (jm : Int) := by unfold wrap64; have := HLT.out; omega
        have d4 : (jm : Int) < (m : Int) := by omega
        clear hj0 hp' hinc hid' hZ' hjm1
        go_wp2_with fail
        go_region_held3 (fun w' => w'.cell? ⟨B, o + p * 13, none⟩ = some (.int .i64 r1.k) ∧ w'.cell? ⟨B, o + p * 13 + 1, none⟩ = some (.int .i64 r1.t) ∧ w'.cell? ⟨B, o + p * 13 + 2, none⟩ = some (.int .i64 r1.n) ∧ w'.cell? ⟨B, o + p * 13 + 3, none⟩ = some (.int .i64 r1.d) ∧ w'.cell? ⟨B, o + p * 13 + 4, none⟩ = some (.string r1.s) ∧ w'.cell? ⟨B, o + p * 13 + 5, none⟩ = some (.int .i64 r1.vk) ∧ w'.cell? ⟨B, o + p * 13 + 6, none⟩ = some (.int .i64 r1.vx) ∧ w'.cell? ⟨B, o + p * 13 + 7, none⟩ = some (.int .u64 r1.vb) ∧ w'.cell? ⟨B, o + p * 13 + 8, none⟩ = some (.string r1.vs) ∧ w'.cell? ⟨B, o + p * 13 + 9, none⟩ = some (.slice r1.la r1.ll r1.lc) ∧ w'.cell? ⟨B, o + p * 13 + 10, none⟩ = some (.int .i64 r1.f) ∧ w'.cell? ⟨B, o + p * 13 + 11, none⟩ = some (.int .u64 (r1.c : Int)) ∧ w'.cell? ⟨B, o + p * 13 + 12, none⟩ = some (.int .i64 r1.m) ∧ w'.cell? ⟨B2, o2 + j * 13, none⟩ = some (.int .i64 r2.k) ∧ w'.cell? ⟨B2, o2 + j * 13 + 1, none⟩ = some (.int .i64 r2.t) ∧ w'.cell? ⟨B2, o2 + j * 13 + 2, none⟩ = some (.int .i64 r2.n) ∧ w'.cell? ⟨B2, o2 + j * 13 + 3, none⟩ = some (.int .i64 r2.d) ∧ w'.cell? ⟨B2, o2 + j * 13 + 4, none⟩ = some (.string r2.s) ∧ w'.cell? ⟨B2, o2 + j * 13 + 5, none⟩ = some (.int .i64 r2.vk) ∧ w'.cell? ⟨B2, o2 + j * 13 + 6, none⟩ = some (.int .i64 r2.vx) ∧ w'.cell? ⟨B2, o2 + j * 13 + 7, none⟩ = some (.int .u64 r2.vb) ∧ w'.cell? ⟨B2, o2 + j * 13 + 8, none⟩ = some (.string r2.vs) ∧ w'.cell? ⟨B2, o2 + j * 13 + 9, none⟩ = some (.slice r2.la r2.ll r2.lc) ∧ w'.cell? ⟨B2, o2 + j * 13 + 10, none⟩ = some (.int .i64 r2.f) ∧ w'.cell? ⟨B2, o2 + j * 13 + 11, none⟩ = some (.int .u64 (r2.c : Int)) ∧ w'.cell? ⟨B2, o2 + j * 13 + 12, none⟩ = some (.int .i64 r2.m) ∧ w'.cell? ⟨Bi, oi + jm, none⟩ = some (.int .i64 Z')) (go_keep) (first | (go_at_call 20; refine (KS.out _ (Below.refl _ wr).drew).mono ?_; rintro e w3 ⟨rfl, hb3⟩; have T3 : Hid (Below wr.heap.size wr w3) := bel2 (Below.refl _ wr).drew hb3; obtain ⟨a1_0, a1_1, a1_2, a1_3, a1_4, a1_5, a1_6, a1_7, a1_8, a1_9, a1_10, a1_11, a1_12⟩ := HA.out.below T3.out; obtain ⟨b1_0, b1_1, b1_2, b1_3, b1_4, b1_5, b1_6, b1_7, b1_8, b1_9, b1_10, b1_11, b1_12⟩ := HC.out.below T3.out; have hi1 := cellB HI0.out T3.out; clear hi0; clear hb3 a0 a1 a2 a3 a4 a5 a6 a7 a8 a9 a10 a11 a12 b0 b1 b2 b3 b4 b5 b6 b7 b8 b9 b10 b11 b12))
        clear a1_0 a1_1 a1_2 a1_3 a1_4 a1_5 a1_6 a1_7 a1_8 a1_9 a1_10 a1_11 a1_12 b1_0 b1_1 b1_2 b1_3 b1_4 b1_5 b1_6 b1_7 b1_8 b1_9 b1_10 b1_11 b1_12 hi1
        by_cases hd : id < Z
        · have hd' : decide (id < Z) = true := decide_eq_true hd
          have HQ := fin1.out hd
          have HQQ : Hid (lat id (s.take (j + 1)) = q + 1) := HQ
          clear HQ hd
          go_wp2_with fail
          exact ⟨⟨j + 1, hlt, by first | rw [HW.out] | rw [HN1.out], by rw [HQQ.out] <;> first | done | rw [HQ1.out] | rw [HN1.out], HR.out _ T3.out⟩, by first | exact meas hlt HW.out | exact meas hlt (HN1.out j)⟩
        · have hd' : decide (id < Z) = false := decide_eq_false hd
          have HQQ : Hid (lat id (s.take (j + 1)) = q) := fin0.out (Int.not_lt.1 hd)
          clear hd
          go_wp2_with fail
          exact ⟨⟨j + 1, hlt, by first | rw [HW.out] | rw [HN1.out], by rw [HQQ.out] <;> first | done | rw [HQ1.out] | rw [HN1.out], HR.out _ T3.out⟩, by first | exact meas hlt HW.out | exact meas hlt (HN1.out j)⟩
    · obtain rfl : j = m := by omega
      have el : lat id (s.take j) = (((s.filter fun (i : Nat) => decide (id < (i : Int) + 1)).map (ex ys)).length) := by
        rw [List.length_map, List.take_of_length_le (by rw [HM.out]; exact Nat.le_refl _)]
        rfl
      have HC := HAI.out wr (bel2 HB2.out HBr.out)
      generalize (s.filter fun (i : Nat) => decide (id < (i : Int) + 1)).map (ex ys) = zs at HC el
      rw [el]
      have HCC : Hid (Calls _ _ _ _ _) := HC
      clear HC el HAI
      go_wp2_with fail
      refine HCC.out.mono ?_
      rintro e w3 ⟨v3, rfl, hes, hb⟩
      obtain ⟨la3, lc3, _, rfl, _⟩ := hes.rows
      have HB3 : Hid (Below w.heap.size w w3) := bel2 (bel2 HB2.out HBr.out) hb
      generalize zs.length = q3
      have hq3 : ((q3 : Int) == (q3 : Int)) = true := by simp
      have HAw : Hid (Calls Try.prog 7 #[] w3 _) := awake_calls w3
      clear hes hb HCC
      go_wp2_with fail
      refine HAw.out.mono ?_
      rintro e w4 ⟨rfl, hb⟩
      go_wp2_with fail
      go_ret
      exact ⟨rfl, bel2 HB3.out hb⟩
set_option maxHeartbeats 1000000 in
theorem after_many (a : Option Addr) (N c : Nat) (hN : ¬ N ≤ 200) (id kind : Int) (w : World) :
    Calls Try.prog 5 #[.slice a N c, .int .i64 kind, .int .i64 id] w fun e w' => e = .returned (.bool true) ∧ Below w.heap.size w w' := by
  have hfd : decide ((N : Int) ≤ 200) = false := decide_eq_false (by omega)
  have HF : Hid (Calls Try.prog 6 #[.slice a N c] w fun e w' => e = .returned (.bool false) ∧ w' = w) := by
    have := few_calls a N c w
    rw [hfd] at this
    exact this
  have HA : Hid (Calls Try.prog 7 #[] w _) := awake_calls w
  clear hfd hN
  go_enter Try.func5, Try.ntmps5
  go_wp2_with fail
  refine HF.out.mono ?_
  rintro e w1 ⟨rfl, hw⟩
  have hw' := hw.symm
  subst hw'
  clear hw HF
  go_wp2_with fail
  refine HA.out.mono ?_
  rintro e w1 ⟨rfl, hb⟩
  go_wp2_with fail
  go_ret
  exact ⟨rfl, hb⟩
end Go.Proofs.Ytoebbndcmelcfaa
