/- An argument that is a history. -/
import Derived.Test.YtdlllehoeodekaaI
namespace Go.Proofs.Ytdlllehoeodekaa
open Go.ChangeAt Go.ChangeShapes Go.Deep Go.RowKit Go.WideShapes
theorem ze_small (N : Nat) : SmallW (N + 1) ze.v := ⟨by decide, fun i t h => by simp at h⟩
set_option maxRecDepth 100000 in
theorem open_evs {H : Type} {enc : TypeId × Value → H} {W : World} {base : Nat} {spare : Nat → Bool} {held : Bool} (fuel : Nat) (cs : List Value) (x : DataW H × List MemPlace) (h : DataW.trod enc Try.prog W base spare held fuel 22 cs = some x) (hwt : ∀ y ∈ x.1.weights Try.prog 22, y ≤ reachBytes) :
    ∃ (a : Option Addr) (n c : Nat) (hs : List Rw) (ys : List Ev) (NN : Nat), cs = [.slice a n c] ∧ n ≤ c ∧ hs.length = n ∧ Hh W NN a hs ys := by
  rcases DataW.trod_slice Try.underlying22 h with ⟨h4, _⟩ | ⟨a, len, cap, elems, rest, q, hq, h4, h4x, _, hl, hm, he, hx, _, _⟩
  · exact ⟨none, 0, 0, [], [], 0, h4, Nat.le_refl _, rfl, ⟨rfl, fun i r hr => by simp at hr, fun i => by rw [rx_none (by simp), ex_none (by simp)]; exact zr_is W 0, fun i => by rw [ex_none (by simp)]; exact ze_small 0⟩⟩
  · have helem : ∀ i (hi : i < elems.length), ∀ y ∈ (elems[i]).1.weights Try.prog 38, y ≤ reachBytes := fun i hi y hy => by
      apply hwt
      rw [h4x]
      simp only [DataW.weights, Try.underlying22, List.mem_cons, List.mem_append]
      exact .inr (.inl (mem_all (List.mem_map.2 ⟨_, List.getElem_mem hi, rfl⟩) y hy))
    clear h4x hwt
    have each : ∀ i, i < len → ∃ r : Rw × Tv × Nat, ∃ B o, a = ⟨B, o, none⟩ ∧ AtR W B (o + i * 13) r.1 ∧ Is W (r.2.2 + 1) r.1.vv r.2.1 ∧ SmallW (r.2.2 + 1) r.2.1 := by
      intro i hi
      have key := hx i hi
      rw [List.getElem?_eq_getElem (by omega)] at key
      obtain ⟨cs', k1, k2⟩ := Option.bind_eq_some_iff.1 key
      obtain ⟨ek, et, en, ed, es, vk, vx, vb, vs, la, ll, lc, ef, ec, em, nn, tv, rfl, hi', hsm, _⟩ := open_evW q cs' _ k2 (helem i (by omega))
      rw [cells29] at k1
      obtain ⟨_, _, hcell⟩ := World.cells?_some k1
      have hsp : a.spot = none := by
        have key0 := hx 0 (by omega)
        rw [List.getElem?_eq_getElem (by omega)] at key0
        obtain ⟨cs0, k10, k20⟩ := Option.bind_eq_some_iff.1 key0
        obtain ⟨_, _, _, _, _, _, _, _, _, _, _, _, _, _, _, _, _, rfl, _⟩ := open_evW q cs0 _ k20 (helem 0 (by omega))
        rw [cells29] at k10
        obtain ⟨_, _, hcell0⟩ := World.cells?_some k10
        have q0 := hcell0 0 (by simp)
        rw [add_add] at q0
        have := plain_addr q0
        simpa [Addr.add] using this
      obtain ⟨B, o, sp⟩ := a
      cases hsp
      have ad : ∀ r, ((⟨B, o, none⟩ : Addr).add (i * 13)).add r = ⟨B, o + i * 13 + r, none⟩ := by
        intro r
        rw [addp, addp]
      have p0 := hcell 0 (by simp)
      have p1 := hcell 1 (by simp)
      have p2 := hcell 2 (by simp)
      have p3 := hcell 3 (by simp)
      have p4 := hcell 4 (by simp)
      have p5 := hcell 5 (by simp)
      have p6 := hcell 6 (by simp)
      have p7 := hcell 7 (by simp)
      have p8 := hcell 8 (by simp)
      have p9 := hcell 9 (by simp)
      have p10 := hcell 10 (by simp)
      have p11 := hcell 11 (by simp)
      have p12 := hcell 12 (by simp)
      rw [ad] at p0 p1 p2 p3 p4 p5 p6 p7 p8 p9 p10 p11 p12
      exact ⟨(⟨ek, et, en, ed, es, vk, vx, vb, vs, la, ll, lc, ef, ec, em⟩, tv, nn), B, o, rfl, ⟨by simpa using p0, by simpa using p1, by simpa using p2, by simpa using p3, by simpa using p4, by simpa using p5, by simpa using p6, by simpa using p7, by simpa using p8, by simpa using p9, by simpa using p10, by simpa using p11, by simpa using p12⟩, hi', hsm⟩
    have inh : Inhabited (Rw × Tv × Nat) := ⟨zr, .mk 0 0 0 ⟨#[]⟩ [], 0⟩
    obtain ⟨F, hF⟩ := choose_lt each
    obtain ⟨N, hN⟩ := fuel_lt (n := len) (q := fun i N => (F i).2.2 ≤ N) (fun _ _ _ h h' => Nat.le_trans h' h) (fun i _ => ⟨_, Nat.le_refl _⟩)
    have gh : ∀ i, i < len → ((List.range len).map fun i => (F i).1)[i]? = some (F i).1 := fun i hi => by rw [List.getElem?_map, List.getElem?_range hi]; rfl
    have gy : ∀ i, i < len → ((List.range len).map fun i => (F i).1.ev (F i).2.1)[i]? = some ((F i).1.ev (F i).2.1) := fun i hi => by rw [List.getElem?_map, List.getElem?_range hi]; rfl
    refine ⟨some a, len, cap, (List.range len).map fun i => (F i).1, (List.range len).map fun i => (F i).1.ev (F i).2.1, N, h4, hl, by simp, ⟨by simp, fun i r hr => ?_, fun i => ?_, fun i => ?_⟩⟩
    · have hi : i < len := by have := (List.getElem?_eq_some_iff.1 hr).1; simpa using this
      rw [gh i hi] at hr
      cases hr
      obtain ⟨B, o, ha, h5, _⟩ := hF i hi
      exact ⟨B, o, by rw [ha], h5⟩
    · by_cases hi : i < len
      · obtain ⟨B, o, ha, h5, hI, _⟩ := hF i hi
        rw [rx_some (gh i hi), ex_some (gy i hi)]
        exact ⟨_, rfl, hI.up (by have := hN i hi; omega)⟩
      · rw [rx_none (by simp; omega), ex_none (by simp; omega)]
        exact zr_is W N
    · by_cases hi : i < len
      · obtain ⟨B, o, ha, h5, _, hS⟩ := hF i hi
        rw [ex_some (gy i hi)]
        exact hS.up (by have := hN i hi; omega)
      · rw [ex_none (by simp; omega)]
        exact ze_small N
end Go.Proofs.Ytdlllehoeodekaa
