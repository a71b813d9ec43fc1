/- The contracts of runOf and ParseBranch. -/
import Derived.Test.YtglnklghhjdjbaaDoorE
namespace Go.Proofs.YtglnklghhjdjbaaDoor
open Go.ChangeShapes Go.WideShapes Go.ChangeAt Go.RowKit
theorem runOf_calls (d : ByteArray) (w : World) : Calls Tryd.prog 27 #[.string d] w fun e w' => ∃ r : Nat, e = .returned (.int .i64 (r : Int)) ∧ ((1 ≤ r ∧ r ≤ 10 ∧ dg r = d) ∨ (r = 0 ∧ ∀ q, 1 ≤ q → q ≤ 10 → dg q ≠ d)) ∧ w' = w := by
  go_enter Tryd.func27, Tryd.ntmps27
  go_wp2
  go_loop [3] (fun i => ∃ j : Nat, 1 ≤ j ∧ j ≤ 11 ∧ i = .int .i64 j ∧ Hid (∀ q, 1 ≤ q → q < j → dg q ≠ d)) (fun i => 11 - (intOf i).toNat)
  case atStart => exact ⟨1, by omega, by omega, rfl, fun q h1 h2 => absurd h1 (by omega)⟩
  case round =>
    obtain ⟨j, h1, hj, rfl, HG⟩ := hrel
    by_cases hlt : j ≤ 10
    · have C1 : Hid (Calls _ _ _ _ _) := itoa_small j (by omega) w
      by_cases hd : dg j = d
      · have hb : ((dg j).toList == d.toList) = true := by rw [hd]; simp
        have HD : Hid (dg j = d) := hd
        clear hd
        go_wp2_with fail
        refine Calls.mono C1.out ?_
        rintro e w1 ⟨rfl, hw1⟩
        have hw2 := hw1.symm
        subst hw2
        go_wp2
        go_ret
        exact ⟨j, rfl, .inl ⟨h1, hlt, HD.out⟩, rfl⟩
      · have hb : ((dg j).toList == d.toList) = false := by
          rw [Lib.toList_data, Lib.toList_data]
          simp only [beq_eq_false_iff_ne, ne_eq]
          exact fun h => hd (tl_inj h)
        have HQ : Hid (∀ q, 1 ≤ q → q < j + 1 → dg q ≠ d) := by
          intro q a b
          by_cases e : q = j
          · subst e; exact hd
          · exact HG.out q a (by omega)
        clear hd
        go_wp2_with fail
        refine Calls.mono C1.out ?_
        rintro e w1 ⟨rfl, hw1⟩
        have hw2 := hw1.symm
        subst hw2
        go_wp2
        go_round
        case rel => exact ⟨j + 1, by omega, by omega, rfl, HQ⟩
        case measure => simp [intOf]; omega
    · obtain rfl : j = 11 := by omega
      go_wp2
      go_ret
      exact ⟨0, rfl, .inr ⟨rfl, fun q h1 h2 => HG.out q h1 (by omega)⟩, rfl⟩
theorem scut_hit (s : ByteArray) (hs : s.size ≤ 140737488351232) (i : Nat) (hi : i < s.size) (hx : Lib.indexByte (tl s) 47 = (i : Int)) (w : World) : Calls Tryd.prog 26 #[.string s, .string ⟨#[47]⟩] w fun e w' => e = .returned (.tuple #[.string (s.extract 0 i), .string (s.extract (i + 1) s.size), .bool true]) ∧ ∃ n, w' = w.drewN n := by
  have C1 : Hid (Calls _ _ _ _ _) := cut_hit s hs i hi hx w
  clear hx hi hs
  generalize s.extract 0 i = a at C1
  generalize s.extract (i + 1) s.size = b at C1
  go_enter Tryd.func26, Tryd.ntmps26
  go_wp2_with fail
  refine Calls.mono C1.out ?_
  rintro e w1 ⟨rfl, n, rfl⟩
  go_wp2
  go_ret3
  exact ⟨rfl, n, rfl⟩
theorem scut_miss (s : ByteArray) (hx : Lib.indexByte (tl s) 47 = -1) (w : World) : Calls Tryd.prog 26 #[.string s, .string ⟨#[47]⟩] w fun e w' => e = .returned (.tuple #[.string s, .string ⟨#[]⟩, .bool false]) ∧ ∃ n, w' = w.drewN n := by
  have C1 : Hid (Calls _ _ _ _ _) := cut_miss s hx w
  clear hx
  go_enter Tryd.func26, Tryd.ntmps26
  go_wp2_with fail
  refine Calls.mono C1.out ?_
  rintro e w1 ⟨rfl, n, rfl⟩
  go_wp2
  go_ret3
  exact ⟨rfl, n, rfl⟩
theorem below_drewN (w : World) (n : Nat) : Below w.heap.size w (w.drewN n) := ⟨rfl, rfl, rfl, Nat.le_refl _, fun _ _ => rfl⟩
theorem not_pre {k f : ByteArray} {r : Nat} (h : Is k f r) : Lib.hasPrefix (tl k) [104, 47] = true := by
  rw [h.1, tl_br]
  exact (pre_two _ _ _).2 ⟨by simp, rfl⟩
theorem Is.rest {k f : ByteArray} {r : Nat} (h : Is k f r) : (tl k).drop 2 = tl f ++ 47 :: Lib.decDigits r := by
  rw [h.1, tl_br]
  rfl
theorem parse_no (k : ByteArray) (w : World) (hp : Lib.hasPrefix (tl k) [104, 47] = false) : Calls Tryd.prog 18 #[.string k] w fun e w' => ∃ v, e = .returned v ∧ Says k v ∧ Below w.heap.size w w' := by
  have C1 : Hid (Calls _ _ _ _ _) := cutp_calls k 104 47 w
  rw [hp] at C1
  have HS : Hid (Says k (.tuple #[.string ⟨#[]⟩, .int .i64 0, .bool false])) := .inr ⟨fun f r h => Bool.false_ne_true (hp ▸ not_pre h), rfl⟩
  clear hp
  go_enter Tryd.func18, Tryd.ntmps18
  go_wp2_with fail
  refine Calls.mono C1.out ?_
  rintro e w1 ⟨rfl, hw1⟩
  have hw2 := hw1.symm
  subst hw2
  go_wp2
  go_ret3
  exact ⟨_, rfl, HS.out, Below.refl _ _⟩
theorem parse_miss (k : ByteArray) (w : World) (hp : Lib.hasPrefix (tl k) [104, 47] = true) (hx : Lib.indexByte ((tl k).drop 2) 47 = -1) (hm : (47 : UInt8) ∉ (tl k).drop 2) : Calls Tryd.prog 18 #[.string k] w fun e w' => ∃ v, e = .returned v ∧ Says k v ∧ Below w.heap.size w w' := by
  have C1 : Hid (Calls _ _ _ _ _) := cutp_calls k 104 47 w
  rw [hp, trim_two _ _ _ hp] at C1
  have C2 : Hid (Calls _ _ _ _ _) := scut_miss (sb ((tl k).drop 2)) hx w
  have HS : Hid (Says k (.tuple #[.string ⟨#[]⟩, .int .i64 0, .bool false])) := .inr ⟨fun f r h => hm (h.rest ▸ List.mem_append_right _ (List.mem_cons_self ..)), rfl⟩
  have HB : Hid (∀ n, Below w.heap.size w (w.drewN n)) := below_drewN w
  generalize sb ((tl k).drop 2) = rest at C1 C2
  clear hp hx hm
  go_enter Tryd.func18, Tryd.ntmps18
  go_wp2_with fail
  refine Calls.mono C1.out ?_
  rintro e w1 ⟨rfl, hw1⟩
  have hw2 := hw1.symm
  subst hw2
  go_wp2_with fail
  refine Calls.mono C2.out ?_
  rintro e w1 ⟨rfl, n, rfl⟩
  go_wp2
  go_ret3
  exact ⟨_, rfl, HS.out, HB.out _⟩
theorem parse_hit (k : ByteArray) (hk : k.size ≤ 140737488351232) (w : World) (hp : Lib.hasPrefix (tl k) [104, 47] = true) (a b : List UInt8) (hd : (tl k).drop 2 = a ++ 47 :: b) (ha : (47 : UInt8) ∉ a) (hx : Lib.indexByte ((tl k).drop 2) 47 = (a.length : Int)) : Calls Tryd.prog 18 #[.string k] w fun e w' => ∃ v, e = .returned v ∧ Says k v ∧ Below w.heap.size w w' := by
  have h2 := (pre_two (tl k) 104 47).1 hp
  have hkl : tl k = 104 :: 47 :: (a ++ 47 :: b) := by
    have := List.take_append_drop 2 (tl k)
    rw [h2.2, hd] at this
    exact this.symm
  have C1 : Hid (Calls _ _ _ _ _) := cutp_calls k 104 47 w
  rw [hp, trim_two _ _ _ hp] at C1
  have hsz : (sb ((tl k).drop 2)).size = a.length + 1 + b.length := by
    rw [← tl_len, tl_sb, hd]
    simp
    omega
  have hks : k.size = a.length + b.length + 3 := by
    rw [← tl_len, hkl]
    simp
    omega
  have C2 : Hid (Calls _ _ _ _ _) := scut_hit (sb ((tl k).drop 2)) (by omega) a.length (by omega) hx w
  have e1 : (sb ((tl k).drop 2)).extract 0 a.length = sb a := by
    apply tl_inj
    rw [tl_extract, tl_sb, tl_sb, hd, List.drop_zero]
    simp
  have e2 : (sb ((tl k).drop 2)).extract (a.length + 1) (sb ((tl k).drop 2)).size = sb b := by
    apply tl_inj
    rw [tl_extract, ← tl_len, List.take_length, tl_sb, tl_sb, hd]
    simp
  rw [e1, e2] at C2
  have HI : Hid (∀ f r, Is k f r → f = sb a ∧ dg r = sb b) := by
    intro f r h
    have := h.rest
    rw [hd] at this
    obtain ⟨p, q⟩ := split_inj this ha (nm_slash h.2.1)
    exact ⟨tl_inj p.symm, tl_inj q.symm⟩
  have HK : Hid (∀ r, dg r = sb b → k = br (sb a) r) := by
    intro r h
    apply tl_inj
    rw [hkl, tl_br, tl_sb, ← tl_dg, h, tl_sb]
  have HB : Hid (∀ n, Below w.heap.size w (w.drewN n)) := below_drewN w
  generalize sb ((tl k).drop 2) = rest at C1 C2
  generalize sb a = f at C2 HI HK
  generalize sb b = d at C2 HI HK
  clear hp hx hd ha h2 hkl hsz hks e1 e2 hk
  have C3 : Hid (∀ w, Calls Tryd.prog 7 #[.string f] w fun e w' => e = .returned (.bool (nmB f)) ∧ w' = w) := name_calls f
  have C4 : Hid (∀ w, Calls Tryd.prog 27 #[.string d] w fun e w' => ∃ r : Nat, e = .returned (.int .i64 (r : Int)) ∧ ((1 ≤ r ∧ r ≤ 10 ∧ dg r = d) ∨ (r = 0 ∧ ∀ q, 1 ≤ q → q ≤ 10 → dg q ≠ d)) ∧ w' = w) := runOf_calls d
  cases hn : nmB f with
  | false =>
    rw [hn] at C3
    have HS : Hid (Says k (.tuple #[.string ⟨#[]⟩, .int .i64 0, .bool false])) := .inr ⟨fun g r h => Bool.false_ne_true (hn ▸ (HI.out g r h).1 ▸ h.2.1), rfl⟩
    clear hn
    go_enter Tryd.func18, Tryd.ntmps18
    go_wp2_with fail
    refine Calls.mono C1.out ?_
    rintro e w1 ⟨rfl, hw1⟩
    have hw2 := hw1.symm
    subst hw2
    go_wp2_with fail
    refine Calls.mono C2.out ?_
    rintro e w1 ⟨rfl, n, rfl⟩
    go_wp2_with fail
    refine Calls.mono (C3.out _) ?_
    rintro e w1 ⟨rfl, hw1⟩
    have hw2 := hw1.symm
    subst hw2
    go_wp2
    go_ret3
    exact ⟨_, rfl, HS.out, HB.out _⟩
  | true =>
    rw [hn] at C3
    have HN : Hid (nmB f = true) := hn
    clear hn
    go_enter Tryd.func18, Tryd.ntmps18
    go_wp2_with fail
    refine Calls.mono C1.out ?_
    rintro e w1 ⟨rfl, hw1⟩
    have hw2 := hw1.symm
    subst hw2
    go_wp2_with fail
    refine Calls.mono C2.out ?_
    rintro e w1 ⟨rfl, n, rfl⟩
    go_wp2_with fail
    refine Calls.mono (C3.out _) ?_
    rintro e w1 ⟨rfl, hw1⟩
    have hw2 := hw1.symm
    subst hw2
    go_wp2_with fail
    refine Calls.mono (C4.out _) ?_
    rintro e w1 ⟨r, rfl, hr, hw1⟩
    have hw2 := hw1.symm
    subst hw2
    rcases hr with ⟨r1, r2, r3⟩ | ⟨rfl, r3⟩
    · have HS : Hid (Says k (.tuple #[.string f, .int .i64 (r : Int), .bool true])) := .inl ⟨f, r, ⟨HK.out r r3, HN.out, r1, r2⟩, rfl⟩
      have d0 : ((r : Int) == 0) = false := by simp; omega
      clear r3 r2
      go_wp2
      go_ret3
      exact ⟨_, rfl, HS.out, HB.out _⟩
    · have HS : Hid (Says k (.tuple #[.string ⟨#[]⟩, .int .i64 0, .bool false])) := .inr ⟨fun g r h => r3 r h.2.2.1 h.2.2.2 (HI.out g r h).2, rfl⟩
      clear r3
      go_wp2
      go_ret3
      exact ⟨_, rfl, HS.out, HB.out _⟩
theorem parse_calls (k : ByteArray) (hk : k.size ≤ 140737488351232) (w : World) : Calls Tryd.prog 18 #[.string k] w fun e w' => ∃ v, e = .returned v ∧ Says k v ∧ Below w.heap.size w w' := by
  cases hp : Lib.hasPrefix (tl k) [104, 47] with
  | false => exact parse_no k w hp
  | true =>
    rcases idx_split ((tl k).drop 2) 47 with ⟨h1, h2⟩ | ⟨a, b, h1, h2, h3⟩
    · exact parse_miss k w hp h1 h2
    · exact parse_hit k hk w hp a b h1 h2 h3
end Go.Proofs.YtglnklghhjdjbaaDoor
