/-
  What a long walk holds, in one word: blocks, rows, rows that may be spoilt; each later world has them.
-/
import Derived.Test.YtaakhpibdpgjpaaMid9
namespace Go.Proofs.Ytaakhpibdpgjpaa
open Go.RowKit Go.Shelf
set_option linter.unusedVariables false
set_option linter.unusedSimpArgs false

/-- Numbers of a row that may be written over: from where, till where, the row's place, how many, how far apart, the first. -/
structure Nu where
  B : Nat
  T : Nat
  ao : Option Addr
  n : Nat
  s : Nat
  o : Nat

/-- Nothing below h has turned since w, nothing below k since u; the blocks of L, the rows of R, the numbers of N. -/
structure Al (h : Nat) (w : World) (k : Nat) (u : World) (L : List (Nat × List Value)) (R : List (Option Addr × List Value)) (N : List Nu) (W : World) : Prop where
  b0 : Below h w W
  b1 : Below k u W
  s0 : h ≤ W.heap.size
  s1 : k ≤ W.heap.size
  bl : ∀ e ∈ L, Has W e.1 e.2
  rw : ∀ r ∈ R, FRow W r.1 r.2
  nu : ∀ t ∈ N, Nums t.B t.T W t.ao t.n t.s t.o

theorem Al.later {h k : Nat} {w u W W' : World} {L : List (Nat × List Value)} {R : List (Option Addr × List Value)} {N : List Nu} (H : Al h w k u L R N W) (hb : Below W.heap.size W W') : Al h w k u L R N W' :=
  ⟨H.b0.trans (hb.mono H.s0), H.b1.trans (hb.mono H.s1), Nat.le_trans H.s0 hb.size, Nat.le_trans H.s1 hb.size, fun e he => (H.bl e he).later hb, fun r hr => (H.rw r hr).later hb, fun t ht => (H.nu t ht).later hb⟩

/-- A new block. -/
theorem Al.push {h k : Nat} {w u W : World} {L : List (Nat × List Value)} {R : List (Option Addr × List Value)} {N : List Nu} (H : Al h w k u L R N W) {g : Nat} (hg : W.heap.size = g) (xs : List Value) (t : TypeId) : Al h w k u ((g, xs) :: L) R N (W.alloc (.cells xs.toArray t)) := by
  have hb : Below W.heap.size W (W.alloc (.cells xs.toArray t)) := (Below.refl _ _).alloc (Nat.le_refl _) _
  have K := H.later hb
  refine ⟨K.b0, K.b1, K.s0, K.s1, fun e he => ?_, K.rw, K.nu⟩
  rcases List.mem_cons.1 he with rfl | he
  · rw [← hg]; exact has_new _ _ _
  · exact K.bl e he

/-- A further row. -/
theorem Al.row {h k : Nat} {w u W : World} {L : List (Nat × List Value)} {R : List (Option Addr × List Value)} {N : List Nu} (H : Al h w k u L R N W) {ao : Option Addr} {xs : List Value} (hr : FRow W ao xs) : Al h w k u L ((ao, xs) :: R) N W :=
  ⟨H.b0, H.b1, H.s0, H.s1, H.bl, fun r h => (List.mem_cons.1 h).elim (fun e => by subst e; exact hr) (H.rw r), H.nu⟩

/-- Further numbers. -/
theorem Al.num {h k : Nat} {w u W : World} {L : List (Nat × List Value)} {R : List (Option Addr × List Value)} {N : List Nu} (H : Al h w k u L R N W) {t : Nu} (hn : Nums t.B t.T W t.ao t.n t.s t.o) : Al h w k u L R (t :: N) W :=
  ⟨H.b0, H.b1, H.s0, H.s1, H.bl, H.rw, fun r h => (List.mem_cons.1 h).elim (fun e => by subst e; exact hn) (H.nu r)⟩

/-- The three rows of a cell. -/
abbrev rows3 (c : Ce) (q : Pl) : List (Option Addr × List Value) := [(q.eo, flatE c.ents), (q.lo, flatL c.elems), (q.so, flatI c.seen)]
theorem Al.cell {h k : Nat} {w u W : World} {L : List (Nat × List Value)} {R : List (Option Addr × List Value)} {N : List Nu} (H : Al h w k u L R N W) {c : Ce} {q : Pl} (hr : CRow W c q) : Al h w k u L (rows3 c q ++ R) N W := ((H.row hr.2.2).row hr.2.1).row hr.1

theorem Al.crow {h k : Nat} {w u W : World} {L : List (Nat × List Value)} {R : List (Option Addr × List Value)} {N : List Nu} (H : Al h w k u L R N W) (c : Ce) (q : Pl) (h1 : ∀ r ∈ rows3 c q, r ∈ R) : CRow W c q :=
  ⟨H.rw _ (h1 (q.eo, flatE c.ents) (by simp)), H.rw _ (h1 (q.lo, flatL c.elems) (by simp)), H.rw _ (h1 (q.so, flatI c.seen) (by simp))⟩

/-- The numbers of an answer's cell. -/
abbrev nums3 (B T : Nat) (c : Ce) (q : Pl) : List Nu := [⟨B, T, q.eo, c.ents.length, 3, 1⟩, ⟨B, T, q.lo, c.elems.length, 5, 2⟩, ⟨B, T, q.so, c.seen.length, 1, 0⟩]
theorem Al.nums {h k : Nat} {w u W : World} {L : List (Nat × List Value)} {R : List (Option Addr × List Value)} {N : List Nu} (H : Al h w k u L R N W) {B T : Nat} {c : Ce} {q : Pl} (hT : W.heap.size = T) (HO : COwn B W c q) : Al h w k u L R (nums3 B T c q ++ N) W := by
  have K := nums_cell HO hT (Below.refl _ _)
  exact ((H.num (t := ⟨B, T, q.so, c.seen.length, 1, 0⟩) K.2.2).num (t := ⟨B, T, q.lo, c.elems.length, 5, 2⟩) K.2.1).num (t := ⟨B, T, q.eo, c.ents.length, 3, 1⟩) K.1

theorem Al.cnums {h k : Nat} {w u W : World} {L : List (Nat × List Value)} {R : List (Option Addr × List Value)} {N : List Nu} (H : Al h w k u L R N W) (B T : Nat) (c : Ce) (q : Pl) (h1 : ∀ r ∈ nums3 B T c q, r ∈ N) : Nums B T W q.eo c.ents.length 3 1 ∧ Nums B T W q.lo c.elems.length 5 2 ∧ Nums B T W q.so c.seen.length 1 0 :=
  ⟨H.nu _ (h1 ⟨B, T, q.eo, c.ents.length, 3, 1⟩ (by simp)), H.nu _ (h1 ⟨B, T, q.lo, c.elems.length, 5, 2⟩ (by simp)), H.nu _ (h1 ⟨B, T, q.so, c.seen.length, 1, 0⟩ (by simp))⟩

theorem Mid.int {B T : Nat} {w w' : World} (h : Mid B T w w') {g o : Nat} (hg : g < w.heap.size) (hT : T ≤ g) (H : IntAt w g o) : IntAt w' g o := by
  obtain ⟨⟨z, hz⟩, hf⟩ := H
  have hb := h.block g hg (Or.inr hT)
  exact ⟨⟨z, (World.cell?_of_block (a := ⟨g, o, none⟩) hb).trans hz⟩, (World.frozen?_of_block (a := ⟨g, o, none⟩) hb).trans hf⟩

theorem Mid.nums {B T : Nat} {w w' : World} (h : Mid B T w w') {B' T' : Nat} {ao : Option Addr} {n s o : Nat} (hT : T ≤ B') (H : Nums B' T' w ao n s o) : Nums B' T' w' ao n s o := fun h0 => by
  obtain ⟨g, h1, h2, h3, h4, h5⟩ := H h0
  exact ⟨g, h1, h2, h3, Nat.le_trans h4 h.size, fun j hj => h.int (by omega) (by omega) (h5 j hj)⟩

/-- Behind a row's spoiling. -/
theorem Al.mid {h k : Nat} {w u W W' : World} {L : List (Nat × List Value)} {R : List (Option Addr × List Value)} {N : List Nu} (H : Al h w k u L R N W) {B T : Nat} (M : Mid B T W W') (hB : B ≤ W.heap.size) (hh : h ≤ B) (hk : k ≤ B) (L' : List (Nat × List Value)) (hL : ∀ e ∈ L', e ∈ L ∧ (e.1 < B ∨ T ≤ e.1)) (N' : List Nu) (hN : ∀ t ∈ N', t ∈ N ∧ T ≤ t.B) : Al h w k u L' [] N' W' :=
  ⟨H.b0.trans ((M.below hB).mono hh), H.b1.trans ((M.below hB).mono hk), Nat.le_trans H.s0 M.size, Nat.le_trans H.s1 M.size, fun e he => M.has (H.bl e (hL e he).1) (hL e he).2, fun r hr => by simp at hr, fun t ht => M.nums (hN t ht).2 (H.nu t (hN t ht).1)⟩

end Go.Proofs.Ytaakhpibdpgjpaa
