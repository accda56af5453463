/-
  What a call may have turned: the blocks of a set, and new ones.
-/
import Derived.Test.YtgkddimijmnpcaaGreatDoorZIntRows
namespace Go.Proofs.YtgkddimijmnpcaaGreatDoor
open Go.RowKit
set_option linter.unusedVariables false

/-- Of what lay in w only the blocks of S may have turned. -/
def Kept (S : Nat → Prop) (w w' : World) : Prop := Below 0 w w' ∧ ∀ k, k < w.heap.size → ¬ S k → w'.heap[k]? = w.heap[k]?

theorem Kept.refl (S : Nat → Prop) (w : World) : Kept S w w := ⟨Below.refl _ _, fun _ _ _ => rfl⟩

theorem Kept.of {S : Nat → Prop} {w w' : World} (h : Below w.heap.size w w') : Kept S w w' := ⟨h.mono (Nat.zero_le _), fun k hk _ => h.block k hk⟩

theorem Kept.size {S : Nat → Prop} {w w' : World} (h : Kept S w w') : w.heap.size ≤ w'.heap.size := h.1.size

theorem Kept.trans {S : Nat → Prop} {w w1 w2 : World} (h : Kept S w w1) (h2 : Kept S w1 w2) : Kept S w w2 :=
  ⟨h.1.trans h2.1, fun k hk hS => (h2.2 k (Nat.lt_of_lt_of_le hk h.size) hS).trans (h.2 k hk hS)⟩

theorem Kept.mono {S T : Nat → Prop} {w w' : World} (h : Kept S w w') (hST : ∀ k, k < w.heap.size → S k → T k) : Kept T w w' := ⟨h.1, fun k hk hT => h.2 k hk fun hS => hT (hST k hk hS)⟩

theorem Kept.below {S : Nat → Prop} {B : Nat} {w w' : World} (h : Kept S w w') (hB : B ≤ w.heap.size) (hS : ∀ k, S k → B ≤ k) : Below B w w' :=
  ⟨h.1.os, h.1.tape, h.1.output, h.1.size, fun k hk => h.2 k (by omega) fun hs => by have := hS k hs; omega⟩

theorem Kept.cell {S : Nat → Prop} {w w' : World} (h : Kept S w w') {b o : Nat} (hb : b < w.heap.size) (hS : ¬ S b) : w'.cell? ⟨b, o, none⟩ = w.cell? ⟨b, o, none⟩ := World.cell?_of_block (w := w) (h.2 b hb hS)

theorem Kept.frozen {S : Nat → Prop} {w w' : World} (h : Kept S w w') {b o : Nat} (hb : b < w.heap.size) (hS : ¬ S b) : w'.frozen? ⟨b, o, none⟩ = w.frozen? ⟨b, o, none⟩ := World.frozen?_of_block (w := w) (h.2 b hb hS)

theorem Kept.set {S : Nat → Prop} {a w : World} (h : Kept S a w) {p : Addr} (hp : S p.block) (u : Value) : Kept S a (w.setCell p u) :=
  ⟨h.1.setCell (Nat.zero_le _) u, fun k hk hS => (Below.heap_setCell _ _ _ _ fun e => hS (by rw [e]; exact hp)).trans (h.2 k hk hS)⟩

theorem Kept.drew {S : Nat → Prop} {a w : World} (h : Kept S a w) : Kept S a w.drew := ⟨h.1.drew, h.2⟩

theorem RowAt.kept {S : Nat → Prop} {w w' : World} {ao : Option Addr} {l : List Int} (h : RowAt w ao l) (hk : Kept S w w') (hn : ∀ b off, ao = some ⟨b, off, none⟩ → ¬ S b) : RowAt w' ao l := fun h0 => by
  obtain ⟨b, off, h1, h2, h3⟩ := h h0
  exact ⟨b, off, h1, Nat.lt_of_lt_of_le h2 hk.size, fun i hi => (hk.cell h2 (hn b off h1)).trans (h3 i hi)⟩

theorem OwnAt.kept {B : Nat} {S : Nat → Prop} {w w' : World} {ao : Option Addr} {l : List Int} (h : OwnAt B w ao l) (hk : Kept S w w') (hn : ∀ b off, ao = some ⟨b, off, none⟩ → ¬ S b) : OwnAt B w' ao l := fun h0 => by
  obtain ⟨b, off, h1, hB, h2, h3⟩ := h h0
  exact ⟨b, off, h1, hB, Nat.lt_of_lt_of_le h2 hk.size, fun i hi => ⟨(hk.cell h2 (hn b off h1)).trans (h3 i hi).1, (hk.frozen h2 (hn b off h1)).trans (h3 i hi).2⟩⟩

/-- Where a row of the call's own begins. -/
theorem OwnAt.from {B : Nat} {w : World} {ao : Option Addr} {l : List Int} (h : OwnAt B w ao l) (h0 : 0 < l.length) : ∃ b off, ao = some ⟨b, off, none⟩ ∧ B ≤ b ∧ b < w.heap.size := by
  obtain ⟨b, off, h1, hB, h2, _⟩ := h h0
  exact ⟨b, off, h1, hB, h2⟩

end Go.Proofs.YtgkddimijmnpcaaGreatDoor

