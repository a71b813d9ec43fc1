/- The contract of the reference's Check. -/
import Derived.Test.YtkaaddahegkmgaaCA
namespace Go.Proofs.Ytkaaddahegkmgaa
open Go.ChangeShapes Go.WideShapes Go.ChangeAt Go.RowKit
set_option maxHeartbeats 4000000 in
set_option maxRecDepth 100000 in
theorem rcheck_calls (v : Value) (b : Bt) (w : World) (h : BIs w v b) : Calls Try.prog 19 #[v] w fun x w' => x = .returned (.int .i64 (ckE b)) ∧ Below w.heap.size w w' := by
  obtain ⟨rp, rn, rc, wa, wd, rfl, hr, hn, hw⟩ := h
  have HW : Hid (WR w wa b.ws) := hw
  have HRN : Hid (rn = b.row.length) := by obtain ⟨p, c, he, _⟩ := hr; cases he; rfl
  have HNN : Hid (b.ws.length ≤ 9223372036854775807) := hn
  obtain ⟨E, hE⟩ : ∃ E, E = ckE b := ⟨_, rfl⟩
  rw [← hE]
  have HOK : Hid (MayB b → E = 0) := fun hm => by rw [hE]; unfold ckE; rw [if_pos ((mayB_iff b).2 hm)]
  have HNO : Hid (¬ MayB b → E = 1) := fun hm => by rw [hE]; unfold ckE; rw [if_neg (fun h => hm ((mayB_iff b).1 h))]
  obtain ⟨key, ex, row, ws⟩ := b
  dsimp only at HW HRN HNN HOK HNO ⊢
  obtain ⟨X, hX⟩ : ∃ X, X = key.size := ⟨_, rfl⟩
  obtain ⟨N, hN⟩ : ∃ N, N = ws.length := ⟨_, rfl⟩
  have HXY : Hid (X = key.size ∧ rn = row.length ∧ N = ws.length) := ⟨hX, HRN.out, hN⟩
  rw [← hN]
  have sX : key.size = X := hX.symm
  clear hX hN hr hn hw hE
  by_cases t0 : (X : Int) < 1
  · obtain rfl : E = 1 := HNO.out (fun m => by have h1 := m.k0; have := HXY.out; dsimp only at h1; omega)
    go_enter Try.func19, Try.ntmps19
    go_wp2_with fail
    go_loop [3, 4] (fun ok i => ok = .bool false ∧ i = .int .i64 0) (fun _ _ => 0)
    case atStart => exact ⟨rfl, rfl⟩
    case round =>
      obtain ⟨rfl, rfl⟩ := hrel
      go_wp2_with fail
      go_ret
      exact ⟨rfl, bel1 _ _⟩
  by_cases t1 : 64 < (X : Int)
  · obtain rfl : E = 1 := HNO.out (fun m => by have h1 := m.k1; have := HXY.out; dsimp only at h1; omega)
    go_enter Try.func19, Try.ntmps19
    go_wp2_with fail
    go_loop [3, 4] (fun ok i => ok = .bool false ∧ i = .int .i64 0) (fun _ _ => 0)
    case atStart => exact ⟨rfl, rfl⟩
    case round =>
      obtain ⟨rfl, rfl⟩ := hrel
      go_wp2_with fail
      go_ret
      exact ⟨rfl, bel1 _ _⟩
  by_cases t2 : ex < 0
  · obtain rfl : E = 1 := HNO.out (fun m => by have h1 := m.x0; have := HXY.out; dsimp only at h1; omega)
    go_enter Try.func19, Try.ntmps19
    go_wp2_with fail
    go_loop [3, 4] (fun ok i => ok = .bool false ∧ i = .int .i64 0) (fun _ _ => 0)
    case atStart => exact ⟨rfl, rfl⟩
    case round =>
      obtain ⟨rfl, rfl⟩ := hrel
      go_wp2_with fail
      go_ret
      exact ⟨rfl, bel1 _ _⟩
  by_cases t3 : 2147483648 < ex
  · obtain rfl : E = 1 := HNO.out (fun m => by have h1 := m.x1; have := HXY.out; dsimp only at h1; omega)
    go_enter Try.func19, Try.ntmps19
    go_wp2_with fail
    go_loop [3, 4] (fun ok i => ok = .bool false ∧ i = .int .i64 0) (fun _ _ => 0)
    case atStart => exact ⟨rfl, rfl⟩
    case round =>
      obtain ⟨rfl, rfl⟩ := hrel
      go_wp2_with fail
      go_ret
      exact ⟨rfl, bel1 _ _⟩
  by_cases t4 : 524288 < (rn : Int)
  · obtain rfl : E = 1 := HNO.out (fun m => by have h1 := m.r1; have := HXY.out; dsimp only at h1; omega)
    go_enter Try.func19, Try.ntmps19
    go_wp2_with fail
    go_loop [3, 4] (fun ok i => ok = .bool false ∧ i = .int .i64 0) (fun _ _ => 0)
    case atStart => exact ⟨rfl, rfl⟩
    case round =>
      obtain ⟨rfl, rfl⟩ := hrel
      go_wp2_with fail
      go_ret
      exact ⟨rfl, bel1 _ _⟩
  by_cases t5 : 4 < (N : Int)
  · obtain rfl : E = 1 := HNO.out (fun m => by have h1 := m.n1; have := HXY.out; dsimp only at h1; omega)
    go_enter Try.func19, Try.ntmps19
    go_wp2_with fail
    go_loop [3, 4] (fun ok i => ok = .bool false ∧ i = .int .i64 0) (fun _ _ => 0)
    case atStart => exact ⟨by rw [decide_eq_false (by omega : ¬ (N : Int) ≤ 4)], rfl⟩
    case round =>
      obtain ⟨rfl, rfl⟩ := hrel
      go_wp2_with fail
      go_ret
      exact ⟨rfl, bel1 _ _⟩
  go_enter Try.func19, Try.ntmps19
  go_wp2_with fail
  generalize hW : w.alloc (Obj.cells #[.string key, .int .i64 ex, .slice rp rn rc, .slice wa N wd] 29) = W1
  have HK1 : Hid (Bk W1 w.heap.size #[.string key, .int .i64 ex, .slice rp rn rc, .slice wa N wd] 29) := by rw [← hW]; exact Bk.new w _ _
  have HB1 : Hid (Below w.heap.size w W1) := by rw [← hW]; exact bel1 _ _
  clear hW
  go_loopw [3, 4] (fun ok i wr => ∃ (j : Nat) (r : Bool), j ≤ N ∧ ok = .bool r ∧ i = .int .i64 (j : Int) ∧ Hid (r = true ↔ ∀ t ∈ ws.take j, MayW t) ∧ Hid (Below W1.heap.size W1 wr)) (fun _ i _ => N - (intOf i).toNat)
  case atStart => exact ⟨0, true, Nat.zero_le _, rfl, rfl, ⟨fun _ t ht => by simp at ht, fun _ => rfl⟩, Below.refl _ _⟩
  case round =>
    obtain ⟨j, r, hj, rfl, rfl, HR, HB⟩ := hrel
    have m3 : wr.cell? ⟨w.heap.size, 3, none⟩ = some (Value.slice wa N wd) := (HK1.out.below HB.out).cell 3
    cases r with
    | false =>
      have HF : Hid (¬ ∀ t ∈ ws.take j, MayW t) := fun h => by have := HR.out.2 h; simp at this
      obtain rfl : E = 1 := HNO.out (fun m => HF.out (fun t ht => m.ww t (List.mem_of_mem_take ht)))
      go_wp2_with fail
      go_ret
      exact ⟨rfl, bel2 HB1.out HB.out⟩
    | true =>
      have HT : Hid (∀ t ∈ ws.take j, MayW t) := HR.out.1 (by trivial)
      clear HR
      by_cases hlt : j < N
      · have HJ : Hid (j < ws.length) := by have := HXY.out.2.2; show _ < _; omega
        obtain ⟨B, o, ev, rfl, h5, hl⟩ := HW.out j _ (List.getElem?_eq_getElem HJ.out)
        obtain ⟨e0, e1, e2, e3, e4⟩ := h5.below (bel2 HB1.out HB.out)
        have WC : Hid (Calls Try.prog 37 _ wr _) := rwrite_calls (ws[j]'HJ.out) ev wr (hl.below (bel2 HB1.out HB.out))
        obtain ⟨ea, ec, rfl, _⟩ := hl.shape
        have hjl : (j : Int) < (N : Int) := by omega
        have HMo : Hid (∀ r : Bool, (r = true ↔ MayW (ws[j]'HJ.out)) → (r = true ↔ ∀ t ∈ ws.take (j + 1), MayW t)) := fun r hr => by
          rw [List.take_add_one, List.getElem?_eq_getElem HJ.out]
          constructor
          · intro h t ht
            rw [List.mem_append] at ht
            rcases ht with ht | ht
            · exact HT.out t ht
            · simp at ht
              subst ht
              exact hr.1 h
          · intro h
            exact hr.2 (h _ (by rw [List.mem_append]; right; simp))
        clear h5 hl
        go_wp2_with fail
        refine WC.out.mono ?_
        rintro e w2 ⟨⟨r2, rfl, hr2⟩, hb2⟩
        have HB2 : Hid (Below W1.heap.size W1 w2) := bel2 HB.out hb2
        have HR2 : Hid (r2 = true ↔ _) := HMo.out r2 hr2
        clear hb2 hr2 e0 e1 e2 e3 e4 m3
        go_wp2_with fail
        exact ⟨⟨j + 1, r2, hlt, rfl, by go_num, HR2, HB2⟩, by simp only [intOf]; omega⟩
      · obtain rfl : j = N := by omega
        obtain rfl : E = 0 := HOK.out ⟨by have := HXY.out; dsimp only; omega, by have := HXY.out; dsimp only; omega, by dsimp only; omega, by dsimp only; omega, by have := HXY.out; dsimp only; omega, by have := HXY.out; dsimp only; omega, fun t ht => HT.out t (by rw [HXY.out.2.2, List.take_length]; exact ht)⟩
        go_wp2_with fail
        go_ret
        exact ⟨rfl, bel2 HB1.out HB.out⟩
end Go.Proofs.Ytkaaddahegkmgaa
