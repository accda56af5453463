/-
  The laws' own SameCell and SameInts at two cells of the same data, by contracts.
-/
import Derived.Test.YtghlegidapmpmaaCeCopy
import Derived.Deep.LoopGhost
import Derived.OwnWalk
namespace Go.Proofs.Ytghlegidapmpmaa
open Go.RowKit
set_option linter.unusedVariables false
set_option linter.unusedSimpArgs false

/-- What the comparison keeps: both cells, in blocks h and h + 1. -/
def Same2 (w : World) (h : Nat) (c : Ce) (p q : Pl) (w1 : World) : Prop := Below h w w1 ∧ Has w1 h (ceL c p) ∧ Has w1 (h + 1) (ceL c q)

theorem same2_new (w : World) (c : Ce) (p q : Pl) (t : TypeId) : Same2 w w.heap.size c p q ((w.alloc (.cells (ceL c p).toArray t)).alloc (.cells (ceL c q).toArray t)) := by
  refine ⟨((Below.refl _ _).alloc (Nat.le_refl _) _).alloc (by simp) _, (has_new _ _ _).alloc _, ?_⟩
  have := has_new (w.alloc (.cells (ceL c p).toArray t)) (ceL c q) t
  simpa using this

theorem Same2.later {w w1 w2 : World} {h : Nat} {c : Ce} {p q : Pl} (H : Same2 w h c p q w1) (hb : Below w1.heap.size w1 w2) : Same2 w h c p q w2 :=
  ⟨H.1.trans (hb.mono (by have := H.2.1.1; omega)), H.2.1.later hb, H.2.2.later hb⟩

/-- No list is longer than memory. -/
def Lens (c : Ce) : Prop := c.ents.length ≤ 140737488355328 ∧ c.elems.length ≤ 140737488355328 ∧ c.seen.length ≤ 140737488355328
theorem Fit.lens {c : Ce} (h : Fit c) : Lens c := by
  obtain ⟨f1, f2, f3, _⟩ := h
  exact ⟨by omega, by omega, by omega⟩

end Go.Proofs.Ytghlegidapmpmaa
