/- What was written is read as it was. -/
import Derived.Test.YtimiklekajelfaaSI
import Derived.Test.YtimiklekajelfaaSJ
namespace Go.Proofs.Ytimiklekajelfaa
open Go.ChangeShapes Go.WideShapes Go.ChangeAt Go.RowKit
theorem fld_rng {k : Int} (h : fld k ≠ 0) : 1 ≤ k ∧ k ≤ 8 := by
  unfold fld at h
  split at h
  · omega
  · split at h
    · omega
    · split at h
      · omega
      · split at h
        · omega
        · split at h
          · omega
          · exact absurd rfl h
theorem upTo_of {n m : Int} (h : upTo n m = true) : 0 ≤ n ∧ n ≤ m := by
  unfold upTo at h
  simpa using h
theorem sNum_int {n m : Int} (h0 : 0 ≤ n) (hm : n ≤ m) (hi : In n) (t : List UInt8) : sNum m (enc n.toNat ++ t) 0 = (n, t, 0) := by
  have e : ((n.toNat : Nat) : Int) = n := Int.toNat_of_nonneg h0
  have := sNum_enc n.toNat m t (by have := hi.2; omega) (by omega)
  rwa [e] at this
theorem rdK_back : ∀ (ks : List Int) (t : List UInt8), (∀ z ∈ ks, In z ∧ ovr z = false) → rdK ks.length (ens ks ++ t) 0 = (ks, t, 0)
  | [], t, _ => by simp [rdK, ens]
  | z :: ks, t, h => by
    have h1 := (h z List.mem_cons_self)
    have h2 : upTo z 1099511627776 = true := by have := h1.2; unfold ovr at this; simpa using this
    have ih := rdK_back ks t (fun y hy => h y (List.mem_cons_of_mem _ hy))
    have e : ens (z :: ks) ++ t = enc z.toNat ++ (ens ks ++ t) := by simp [ens]
    rw [e, List.length_cons]
    unfold rdK
    rw [sNum_int (upTo_of h2).1 (upTo_of h2).2 h1.1]
    dsimp only
    rw [ih]
theorem rdS_back {x : Sp} (wf : WfS x) (h : mayB x = true) : rdS (putS x) 0 = (x, [], 0) := by
  have m := may_of h
  obtain ⟨k, s, n, b, ks⟩ := x
  obtain ⟨m0, m1, m2, m3, m4, m5⟩ := m
  dsimp only at m0 m1 m2 m3 m4 m5
  obtain ⟨w0, w1, w2, w3⟩ := wf
  dsimp only at w0 w1 w2 w3
  have hk := fld_rng m0
  have nil_of : ∀ {α : Type} {l : List α}, (l.length : Int) ≤ 0 → l = [] := fun hl => List.eq_nil_of_length_eq_zero (by omega)
  unfold rdS putS putF
  dsimp only
  rcases fld_is k with f | f | f | f | f | f
  · rw [f] at m1 m2 m3 m4 ⊢
    have a1 := upTo_of (m := 255) m1
    have a2 : (b.length : Int) ≤ 16384 := m2
    have a3 := upTo_of (m := 0) m3
    have a4 := nil_of (l := ks) m4
    have e3 : n = 0 := by omega
    subst e3 a4
    rw [if_pos rfl, List.append_assoc, List.append_assoc, sNum_int (by omega) (by omega) w0]
    dsimp only
    rw [f]
    unfold rdF
    rw [if_pos rfl, sNum_int a1.1 a1.2 w1]
    dsimp only
    have := sText_enc b [] 16384 a2 (by omega)
    rw [List.append_nil] at this
    rw [this]
  · rw [f] at m1 m2 m3 m4 ⊢
    have a1 := upTo_of (m := 255) m1
    have a2 := nil_of (l := b) m2
    have a3 := upTo_of (m := 0) m3
    have a4 := nil_of (l := ks) m4
    have e3 : n = 0 := by omega
    subst e3 a4 a2
    rw [if_neg (by decide), if_pos rfl, sNum_int (by omega) (by omega) w0]
    dsimp only
    rw [f]
    unfold rdF
    have := sNum_int a1.1 a1.2 w1 []
    rw [List.append_nil] at this
    rw [if_neg (by decide), if_pos rfl, this]
  · rw [f] at m1 m2 m3 m4 ⊢
    have a1 := upTo_of (m := 0) m1
    have a2 := nil_of (l := b) m2
    have a3 := upTo_of (m := 1099511627776) m3
    have a4 := nil_of (l := ks) m4
    have e3 : s = 0 := by omega
    subst e3 a4 a2
    rw [if_neg (by decide), if_neg (by decide), if_pos rfl, sNum_int (by omega) (by omega) w0]
    dsimp only
    rw [f]
    unfold rdF
    have := sNum_int a3.1 a3.2 w2 []
    rw [List.append_nil] at this
    rw [if_neg (by decide), if_neg (by decide), if_pos rfl, this]
  · rw [f] at m1 m2 m3 m4 ⊢
    have a1 := upTo_of (m := 0) m1
    have a2 := nil_of (l := b) m2
    have a3 := upTo_of (m := 0) m3
    have a4 : (ks.length : Int) ≤ 64 := m4
    have e3 : s = 0 := by omega
    have e4 : n = 0 := by omega
    subst e3 e4 a2
    rw [if_neg (by decide), if_neg (by decide), if_neg (by decide), if_pos rfl, List.append_assoc, sNum_int (by omega) (by omega) w0]
    dsimp only
    rw [f]
    unfold rdF
    have h1 := sNum_enc ks.length 64 (ens ks) (by omega) a4
    have h2 := rdK_back ks [] (fun z hz => ⟨w3 z hz, m5 z hz⟩)
    rw [List.append_nil] at h2
    rw [if_neg (by decide), if_neg (by decide), if_neg (by decide), if_pos rfl, h1]
    dsimp only
    rw [Int.toNat_natCast, h2]
  · rw [f] at m1 m2 m3 m4 ⊢
    have a1 := upTo_of (m := 0) m1
    have a2 := nil_of (l := b) m2
    have a3 := upTo_of (m := 0) m3
    have a4 := nil_of (l := ks) m4
    have e3 : s = 0 := by omega
    have e4 : n = 0 := by omega
    subst e3 e4 a2 a4
    have h0 := sNum_int (m := 8) (by omega) hk.2 w0 []
    rw [List.append_nil] at h0
    rw [if_neg (by decide), if_neg (by decide), if_neg (by decide), if_neg (by decide), h0]
    dsimp only
    rw [f]
    unfold rdF
    rw [if_neg (by decide), if_neg (by decide), if_neg (by decide), if_neg (by decide), if_pos rfl]
  · exact absurd f m0
theorem stB_back {x : Sp} (wf : WfS x) (h : mayB x = true) : stB (putS x) = some x := by
  unfold stB stR
  rw [rdS_back wf h]
  rfl
theorem enc_ne (n : Nat) : enc n ≠ [] := by unfold enc; split <;> simp
theorem tx_txt {x : Sp} (wf : WfS x) (h : mayB x = true) (t : List UInt8) : tx (txt x ++ t) = putS x :: tx t := by
  have hl := putS_len wf h
  have he := sText_enc (putS x) t 32768 (by omega) (by omega)
  have hne : txt x ++ t ≠ [] := fun e => by
    have := (List.append_eq_nil_iff.1 e).1
    unfold txt at this
    exact enc_ne _ (List.append_eq_nil_iff.1 this).1
  have e : txt x ++ t = enc (putS x).length ++ (putS x ++ t) := by unfold txt; rw [List.append_assoc]
  rw [← e] at he
  rw [tx_more hne (by rw [he]), he]
theorem parse_back : ∀ xs : List Sp, (∀ x ∈ xs, WfS x) → parseB (putAll xs) = xs.filter mayB
  | [], _ => rfl
  | x :: xs, wf => by
    have ih := parse_back xs (fun y hy => wf y (List.mem_cons_of_mem _ hy))
    by_cases h : mayB x = true
    · have e : putAll (x :: xs) = txt x ++ putAll xs := by unfold putAll; rw [List.filter_cons_of_pos h, List.flatMap_cons]
      unfold parseB at ih ⊢
      rw [e, tx_txt (wf x List.mem_cons_self) h, List.filterMap_cons, stB_back (wf x List.mem_cons_self) h, ih, List.filter_cons_of_pos h]
    · have e : putAll (x :: xs) = putAll xs := by unfold putAll; rw [List.filter_cons_of_neg (by simpa using h)]
      rw [e, ih, List.filter_cons_of_neg (by simpa using h)]
theorem put_one {x : Sp} : (decide (0 < ((putAll [x]).length : Int))) = mayB x := by
  cases h : mayB x with
  | true =>
    have e : putAll [x] = txt x := by simp [putAll, h]
    rw [e]
    have : 0 < (txt x).length := List.length_pos_iff.2 (fun e => by unfold txt at e; exact enc_ne _ (List.append_eq_nil_iff.1 e).1)
    exact decide_eq_true (by omega)
  | false =>
    have e : putAll [x] = [] := by simp [putAll, h]
    rw [e]
    rfl
end Go.Proofs.Ytimiklekajelfaa
