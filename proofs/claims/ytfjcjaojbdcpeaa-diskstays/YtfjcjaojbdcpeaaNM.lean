/- A store at a key that is there, while the map is ranged over. -/
import Derived.Test.YtfjcjaojbdcpeaaNL
namespace Go.Proofs.Ytfjcjaojbdcpeaa
open Go.ChangeShapes Go.WideShapes Go.ChangeAt Go.RowKit Go.Maps Go.MapKept Go.ChangeMaps
open Go.WideElems (Fit rd rg pl rd_key rd_val rg_of other_key)
/-- What a list of entries is, place by place: the keys and the stamps. -/
def Like (l m : List MapEntry) : Prop := ∀ i : Nat, (l[i]?).map (fun x => (x.key, x.born)) = (m[i]?).map (fun x => (x.key, x.born))
theorem Like.left {l m : List MapEntry} (h : Like l m) {x : MapEntry} (hx : x ∈ l) : ∃ y ∈ m, y.key = x.key ∧ y.born = x.born := by
  obtain ⟨i, hi⟩ := List.getElem?_of_mem hx
  have := h i
  rw [hi] at this
  cases hm : m[i]? with
  | none => rw [hm] at this; simp at this
  | some y =>
    rw [hm] at this
    simp at this
    exact ⟨y, List.mem_of_getElem? hm, this.1.symm, this.2.symm⟩
theorem Like.symm {l m : List MapEntry} (h : Like l m) : Like m l := fun i => (h i).symm
theorem Like.borns {l m : List MapEntry} (h : Like l m) : l.map (·.born) = m.map (·.born) := by
  apply List.ext_getElem?
  intro i
  rw [List.getElem?_map, List.getElem?_map]
  have := congrArg (Option.map Prod.snd) (h i)
  simpa [Option.map_map, Function.comp_def] using this
theorem left_size (es : Array MapEntry) (seen : Array Nat) : (leftOf es seen).size = ((es.toList.map (·.born)).filter fun b => !seen.contains b).length := by
  unfold leftOf
  rw [← Array.length_toList, Array.toList_filter, List.filter_map, List.length_map]
  rfl
theorem ranges_turn {H : Type} {P : Program} {k : TypeId} {R : Value → Option (DataW H × List MemPlace)} {w : World} {b r n : Nat} {D : DataW H} {left : Lit → Bool} {cnt : Nat} {t e : TypeId} (h : w.ranges P k R b r n D left cnt) (K : Keyed P k) (ht : P.underlying t = some (.map k e)) (hn : n < maxLen) {key val : Value} {kl : Lit} {d : DataW H} {ps : List MemPlace} (hkey : keyOf P k key = some kl) (hv : R val = some (d, ps)) (hhas : Maps.has D kl = true) :
    ∃ w', (Instr.mapUpdate t (.map (some b)) key val).run P w = .ok () w' ∧ w'.ranges P k R b r n (D.put kl d) left cnt ∧ w.mapTurned w' b := by
  have hne := h.ne
  obtain ⟨es, clock, since, seen, c0, hb, F, hs, rfl, hr, hold, hc, hl1, hl2, hsc, hsk⟩ := h
  obtain ⟨es1, clock1, hrun1, F1, hput, _, _, _⟩ := Maps.fit_store (R' := R) K ht hb F (Nat.lt_of_le_of_lt hs hn) (fun _ _ _ _ hz => hz) hkey hv
  rcases K.find w hkey es.toList F.keys with ⟨h1, h2⟩ | ⟨j, e0, h1, h2, h3⟩
  · exfalso
    obtain ⟨p, hp, hpk⟩ := List.any_eq_true.1 hhas
    obtain ⟨x, hx, rfl⟩ := List.mem_map.1 (mem_sorted.1 hp)
    obtain ⟨y, hy⟩ := F.reads x hx
    have e1 := WideAt.sameKey_eq hpk
    rw [rg_of hy] at e1
    exact h2 x hx (K.inj (e1 ▸ rd_key hy) hkey)
  · have hj : es[j]? = some e0 := by simpa using h2
    have hrun : (Instr.mapUpdate t (.map (some b)) key val).run P w = .ok () (setBlock w b (.map (es.modify j (fun e' => { e' with key := key, val := val })) clock)) := by
      simp [Instr.mapUpdate, run_underlying ht, MapKept.run_getObj_map hb, K.check w false hkey, h1, hj, h3, K.stays w hkey, MapKept.run_setObj_map _ hb, Result.andThen, setBlock]
    have heq : setBlock w b (.map es1 clock1) = setBlock w b (.map (es.modify j (fun e' => { e' with key := key, val := val })) clock) := by
      rw [hrun] at hrun1
      injection hrun1 with _ h5
      exact h5.symm
    have hob := congrArg (fun W : World => W.heap[b]?) heq
    rw [show (setBlock w b (.map es1 clock1)).heap[b]? = _ from heap_setBlock_same hb _, show (setBlock w b (.map (es.modify j (fun e' => { e' with key := key, val := val })) clock)).heap[b]? = _ from heap_setBlock_same hb _] at hob
    injection hob with hob
    injection hob with he1 he2
    have hlike : Like es1.toList es.toList := by
      intro i
      rw [he1, Array.toList_modify, List.getElem?_modify]
      by_cases e : j = i
      · subst e
        rw [h2]
        simp [h3]
      · simp [e]
    have hsz : es1.size = es.size := by rw [he1]; simp
    subst he2
    refine ⟨_, hrun1, ⟨es1, clock1, since, seen, c0, heap_setBlock_same hb _, F1, by omega, by rw [DataW.put_eq, hput], (heap_setBlock_other hb _ hne).trans hr, fun x hx => ?_, ?_, fun x hx => ?_, fun kl' hk' => ?_, hsc, hsk⟩, ⟨es, clock1, es1, clock1, hb, rfl⟩⟩
    · obtain ⟨y, hy, _, e2⟩ := hlike.left hx
      rw [← e2]
      exact hold y hy
    · rw [left_size, hlike.borns, ← left_size]
      exact hc
    · obtain ⟨y, hy, e1, e2⟩ := hlike.left hx
      obtain ⟨yx, hyx⟩ := F1.reads x hx
      obtain ⟨yy, hyy⟩ := F.reads y hy
      have k1 := rd_key hyx
      have k2 := rd_key hyy
      rw [e1, k1] at k2
      rw [rg_of hyx, Option.some.inj k2, ← e2, ← hl1 y hy, rg_of hyy]
    · obtain ⟨x, hx, rfl⟩ := hl2 kl' hk'
      obtain ⟨y, hy, e1, e2⟩ := hlike.symm.left hx
      obtain ⟨yx, hyx⟩ := F.reads x hx
      obtain ⟨yy, hyy⟩ := F1.reads y hy
      have k1 := rd_key hyx
      have k2 := rd_key hyy
      rw [e1, k1] at k2
      exact ⟨y, hy, by rw [rg_of hyy, rg_of hyx, Option.some.inj k2]⟩
end Go.Proofs.Ytfjcjaojbdcpeaa
