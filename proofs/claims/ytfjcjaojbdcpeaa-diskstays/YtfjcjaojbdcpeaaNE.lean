/- The contract of Append's closure: a zone's bytes, longer. -/
import Derived.Test.YtfjcjaojbdcpeaaND
import Derived.Lib.SliceRun
import Derived.Lib.AppendZeros
namespace Go.Proofs.Ytfjcjaojbdcpeaa
open Go.ChangeShapes Go.WideShapes Go.ChangeAt Go.RowKit Go.Maps
theorem holds_below {w w' : World} {v : Value} {l : List UInt8} (h : Lib.HoldsBytes w v l) (hb : Below w.heap.size w w') : Lib.HoldsBytes w' v l := by
  obtain ⟨p, c, rfl, q1, q2⟩ := h
  exact ⟨p, c, rfl, q1, fun a ha i x hx => cell_below (q2 a ha i x hx) hb⟩
theorem Zm.lookAll {b n : Nat} {D : DataW Value} {z : Int} {v : Value} (hz : (Lit.int .i64 z).wf = true) (hv : D.atKey (.int .i64 z) (.held zC) = .held v) (w : World) (h : Zm w b n D) : (Instr.lookup 55 (.map (some b)) (.int .i64 z) false).run Try.prog w = .ok v w := by
  obtain ⟨v', hr, h'⟩ := h.look hz
  rw [hv] at h'
  cases h'
  exact hr
/-- What Append's closure leaves. -/
def ApP (lo b n : Nat) (D : DataW Value) (z : Int) (v : Value) (s : Int) (out l : List UInt8) (w : World) (x : Ending) (w' : World) : Prop :=
  x = .returned (.tuple #[]) ∧ ∃ u n', Own lo w' u (out ++ l) ∧ n' ≤ n + 1 ∧ (out ++ l ≠ [] → Zm w' b n' (D.put (.int .i64 z) (.held (.agg #[u, .int .i64 s])))) ∧ (out ++ l = [] → Zm w' b n' (D.del (.int .i64 z))) ∧ (u.ownBlock = v.ownBlock ∨ ∃ B, u.ownBlock = some B ∧ w.heap.size ≤ B) ∧ w.heap.size ≤ w'.heap.size ∧ w'.os = w.os ∧ w'.tape = w.tape ∧ w'.output = w.output ∧ ∀ k, k < w.heap.size → k ≠ b → v.ownBlock ≠ some k → w'.heap[k]? = w.heap[k]?
set_option maxHeartbeats 2000000 in
set_option maxRecDepth 100000 in
theorem append1_calls (lo g b n q0 q1 q2 : Nat) (c0 c1 c2 : Value) (D : DataW Value) (z : Int) (hz : (Lit.int .i64 z).wf = true) (v : Value) (s : Int) (out l : List UInt8) (xp : Option Addr) (xn xc : Nat) (w : World)
    (h : Bk w g #[c0, c1, c2, .map (some b)] 57) (hm : Zm w b n D) (hn : n < maxLen) (hv : D.atKey (.int .i64 z) (.held zC) = .held (.agg #[v, .int .i64 s])) (ho : Own lo w v out) (hgv : v.ownBlock ≠ some g) (hbv : v.ownBlock ≠ some b) (hlo : lo ≤ w.heap.size)
    (hx : Lib.HoldsBytes w (.slice xp xn xc) l) (hb : out.length + l.length ≤ 1099511627776)
    (k0 : w.cell? ⟨q0, 0, none⟩ = some (.pointer (some ⟨g, 0, none⟩))) (k1 : w.cell? ⟨q1, 0, none⟩ = some (.int .i64 z)) (k2 : w.cell? ⟨q2, 0, none⟩ = some (.slice xp xn xc)) (kv : v.ownBlock ≠ some q0 ∧ v.ownBlock ≠ some q1) :
    Calls Try.prog 41 #[.pointer (some ⟨q0, 0, none⟩), .pointer (some ⟨q1, 0, none⟩), .pointer (some ⟨q2, 0, none⟩)] w (ApP lo b n D z v s out l w) := by
  obtain ⟨va, vc, rfl, _⟩ := ho.shape
  have x3 : w.cell? ⟨g, 3, none⟩ = some (.map (some b)) := h.cell 3
  have lk0 := Zm.lookAll hz hv w.drew hm
  have lk1 := fun X => Zm.lookAll hz hv (w.alloc X).drew (World.ownsMap.alloc hm X)
  have x3a := fun X => cell_below x3 (bel1 w X)
  have k0a := fun X => cell_below k0 (bel1 w X)
  have k1a := fun X => cell_below k1 (bel1 w X)
  have hgl := h.lt
  have hbl := World.ownsMap.lt hm
  have hvl : ∀ B, (Value.slice va out.length vc).ownBlock = some B → B < w.heap.size := fun B hB => (World.ownsRow.lt (show w.ownsRow lo 5 1 _ out.length (bval out) from ho) B hB).2
  obtain ⟨vn, hvn⟩ : ∃ vn, vn = out.length := ⟨_, rfl⟩
  rw [← hvn] at lk0 lk1 ho hv hgv hbv kv hvl ⊢
  have k0l := World.block_lt_of_cell? w _ k0
  have k1l := World.block_lt_of_cell? w _ k1
  have W1b : Below w.heap.size w (w.alloc (.cells #[.slice va vn vc, .int .i64 s] 65)).drew := (bel1 w _).drew
  have ho1 : Own lo (w.alloc (.cells #[.slice va vn vc, .int .i64 s] 65)).drew (.slice va vn vc) out := ho.keep (fun B hB => W1b.block B (hvl B hB))
  obtain ⟨u', w2, hr2, ho2, hg2, hu2⟩ := ho1.app (holds_below hx W1b) hb (by simp; omega)
  have kb2 : ∀ k, k < w.heap.size → (Value.slice va vn vc).ownBlock ≠ some k → w2.heap[k]? = w.heap[k]? := fun k hk hne => (hg2.block k (by simp; omega) (fun e => hne e.symm)).trans (W1b.block k hk)
  have box1 : Bk (w.alloc (.cells #[.slice va vn vc, .int .i64 s] 65)).drew w.heap.size #[.slice va vn vc, .int .i64 s] 65 := Bk.new w _ _
  have box2 : Bk w2 w.heap.size #[.slice va vn vc, .int .i64 s] 65 := (hg2.block _ (by simp) (fun e => by have := hvl _ e.symm; omega)).trans box1
  have hs2 : w.heap.size < w2.heap.size := box2.lt
  obtain ⟨ua, uc, rfl, _⟩ := ho2.shape
  obtain ⟨un, hun⟩ : ∃ un, un = (out ++ l).length := ⟨_, rfl⟩
  rw [← hun] at hr2 ho2 hu2
  have box3 : Bk (w2.setCell ⟨w.heap.size, 0, none⟩ (.slice ua un uc)) w.heap.size #[.slice ua un uc, .int .i64 s] 65 := box2.set 0 _
  have hne3 : ∀ k, k ≠ w.heap.size → (w2.setCell ⟨w.heap.size, 0, none⟩ (.slice ua un uc)).heap[k]? = w2.heap[k]? := fun k hk => Below.heap_setCell _ _ _ _ hk
  have kb3 : ∀ k, k < w.heap.size → (Value.slice va vn vc).ownBlock ≠ some k → (w2.setCell ⟨w.heap.size, 0, none⟩ (.slice ua un uc)).heap[k]? = w.heap[k]? := fun k hk hne => (hne3 k (by omega)).trans (kb2 k hk hne)
  have hblkU : ∀ B, (Value.slice ua un uc).ownBlock = some B → B ≠ w.heap.size ∧ B ≠ b := fun B hB => by
    rcases hu2 with e | e
    · rw [e] at hB
      have := hvl B hB
      exact ⟨by omega, fun e2 => hbv (by rw [← e2]; exact hB)⟩
    · rw [e] at hB
      injection hB with hB
      have : (w.alloc (.cells #[.slice va vn vc, .int .i64 s] 65)).drew.heap.size = w.heap.size + 1 := by simp
      omega
  have ho3 : Own lo (w2.setCell ⟨w.heap.size, 0, none⟩ (.slice ua un uc)) (.slice ua un uc) (out ++ l) := ho2.keep (fun B hB => hne3 B (hblkU B hB).1)
  have bk3 : Bk (w2.setCell ⟨w.heap.size, 0, none⟩ (.slice ua un uc)) g #[c0, c1, c2, .map (some b)] 57 := (kb3 g hgl hgv).trans h
  have zm3 : Zm (w2.setCell ⟨w.heap.size, 0, none⟩ (.slice ua un uc)) b n D := by
    obtain ⟨es, clock, hes, r⟩ := hm
    exact ⟨es, clock, (kb3 b hbl hbv).trans hes, r⟩
  have HP : Hid (Calls Try.prog 42 #[.pointer (some ⟨g, 0, none⟩), .int .i64 z, .agg #[.slice ua un uc, .int .i64 s]] (w2.setCell ⟨w.heap.size, 0, none⟩ (.slice ua un uc)) (fun e w' => e = .returned (.tuple #[]) ∧ (un ≠ 0 → Zm w' b (n + 1) (D.put (.int .i64 z) (.held (.agg #[.slice ua un uc, .int .i64 s])))) ∧ (un = 0 → Zm w' b (n + 1) (D.del (.int .i64 z))) ∧ KB b (w2.setCell ⟨w.heap.size, 0, none⟩ (.slice ua un uc)) w')) := by
    by_cases h0 : un = 0
    · have e0 : un = 0 := h0
      rw [e0] at bk3 zm3 ⊢
      exact (put_none g b n c0 c1 c2 D z hz ua uc s _ bk3 zm3).mono fun e w' ⟨h1, h2, h3⟩ => ⟨h1, fun h => absurd rfl h, fun _ => World.ownsMap.mono h2 (Nat.le_succ n), h3⟩
    · exact (put_some g b n c0 c1 c2 D z hz ua un uc s _ bk3 zm3 hn h0).mono fun e w' ⟨h1, h2, h3⟩ => ⟨h1, fun _ => h2, fun h => absurd h h0, h3⟩
  have HF : Hid (∀ w', (un ≠ 0 → Zm w' b (n + 1) (D.put (.int .i64 z) (.held (.agg #[.slice ua un uc, .int .i64 s])))) → (un = 0 → Zm w' b (n + 1) (D.del (.int .i64 z))) → KB b (w2.setCell ⟨w.heap.size, 0, none⟩ (.slice ua un uc)) w' → ApP lo b n D z (.slice va vn vc) s out l w (.returned (.tuple #[])) w') := fun w' h1 h2 k => by
    have hsz3 : (w2.setCell ⟨w.heap.size, 0, none⟩ (.slice ua un uc)).heap.size = w2.heap.size := by simp [World.setCell]
    have hul : ∀ B, (Value.slice ua un uc).ownBlock = some B → B < (w2.setCell ⟨w.heap.size, 0, none⟩ (.slice ua un uc)).heap.size := fun B hB => (World.ownsRow.lt (show World.ownsRow _ lo 5 1 _ (out ++ l).length (bval (out ++ l)) from ho3) B hB).2
    refine ⟨rfl, .slice ua un uc, n + 1, ho3.keep (fun B hB => k.2.2.2.2 B (hul B hB) (hblkU B hB).2), Nat.le_refl _, fun h => h1 (fun e => h (List.eq_nil_of_length_eq_zero (by omega))), fun h => h2 (by rw [hun, h]; rfl), ?_, by have := k.2.2.2.1; omega, k.1.trans (hg2.os.trans rfl), k.2.1.trans (hg2.tape.trans rfl), k.2.2.1.trans (hg2.output.trans rfl), fun i hi hib hiv => (k.2.2.2.2 i (by omega) hib).trans (kb3 i hi hiv)⟩
    rcases hu2 with e | e
    · exact .inl e
    · exact .inr ⟨_, e, by simp⟩
  have y0 : (w2.setCell ⟨w.heap.size, 0, none⟩ (.slice ua un uc)).cell? ⟨q0, 0, none⟩ = some (.pointer (some ⟨g, 0, none⟩)) := (World.cell?_of_block (kb3 q0 k0l kv.1)).trans k0
  have y1 : (w2.setCell ⟨w.heap.size, 0, none⟩ (.slice ua un uc)).cell? ⟨q1, 0, none⟩ = some (.int .i64 z) := (World.cell?_of_block (kb3 q1 k1l kv.2)).trans k1
  have y2 : (w2.setCell ⟨w.heap.size, 0, none⟩ (.slice ua un uc)).cell? ⟨w.heap.size, 0, none⟩ = some (.slice ua un uc) := box3.cell 0
  have y3 : (w2.setCell ⟨w.heap.size, 0, none⟩ (.slice ua un uc)).cell? ⟨w.heap.size, 1, none⟩ = some (.int .i64 s) := box3.cell 1
  have y4 : w2.cell? ⟨w.heap.size, 0, none⟩ = some (.slice va vn vc) := box2.cell 0
  have y5 := box2.frozen 0
  have k2a := fun X => cell_below k2 (bel1 w X)
  generalize ApP lo b n D z (.slice va vn vc) s out l w = AP at HF ⊢
  clear h hm hn hv ho hgv hbv hlo hx hb kv hgl hbl hvl hvn k0l k1l W1b ho1 ho2 hg2 hu2 kb2 box1 box2 hs2 hun box3 hne3 kb3 hblkU ho3 bk3 zm3 hz
  go_enter Try.func41, Try.ntmps41
  go_wp2_with fail
  go_region
  go_wp2_with (at_builtin; refine Lib.wpList_append_run (P := Try.prog) _ rfl (.tmp 11) (.tmp 12) 31 31 rfl (.slice va vn vc) (.slice xp xn xc) rfl rfl (.slice ua un uc) w2 (hr2 _) ?_)
  refine HP.out.mono ?_
  rintro e w4 ⟨rfl, h1, h2, h3⟩
  have H1 : Hid (_ ∧ _ ∧ _) := ⟨h1, h2, h3⟩
  clear h1 h2 h3
  go_wp2_with fail
  first | go_end0 | refine bodyPost_ret (results_none rfl _ _ _) rfl ?_
  exact HF.out _ H1.out.1 H1.out.2.1 H1.out.2.2
end Go.Proofs.Ytfjcjaojbdcpeaa
