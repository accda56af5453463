/-
  Package fresh: copies of a cell and of its lists in memory of their own, by contracts.
-/
import Derived.Test.YtjfgccjdkflfoaaCeCopy
import Derived.Test.YtjfgccjdkflfoaaClone
import Derived.Deep.LoopGhost
import Derived.OwnWalk
namespace Go.Proofs.Ytjfgccjdkflfoaa
open Go.RowKit
set_option linter.unusedVariables false
set_option linter.unusedSimpArgs false

theorem Copy0.later {w w1 w2 : World} {h : Nat} {c : Ce} {p : Pl} (H : Copy0 w h c p w1) (hb : Below w1.heap.size w1 w2) : Copy0 w h c p w2 :=
  ⟨H.1.trans (hb.mono (by have := H.size; omega)), H.2.1.later hb, H.2.2.later hb⟩

theorem Copy0.row {w w1 : World} {h : Nat} {c : Ce} {p q : Pl} (H : Copy0 w h c q w1) (hh : w.heap.size = h) (R : CRow w c p) : CRow w1 c p := R.later (hh.symm ▸ H.1)

theorem Copy0.set4 {w w1 : World} {h : Nat} {c : Ce} {p : Pl} (H : Copy0 w h c p w1) : Copy0 w h c p (w1.setCell ⟨h, 4, none⟩ (.string c.val)) :=
  ⟨H.1.setCell (p := ⟨h, 4, none⟩) (Nat.le_refl _) _, H.2.1.put 4 _, H.2.2.other (by omega) _ _⟩
theorem Copy0.set7 {w w1 : World} {h : Nat} {c : Ce} {p : Pl} (H : Copy0 w h c p w1) (ao : Option Addr) (ca : Nat) : Copy0 w h c { p with eo := ao, ec := ca } (w1.setCell ⟨h, 7, none⟩ (.slice ao c.ents.length ca)) :=
  ⟨H.1.setCell (p := ⟨h, 7, none⟩) (Nat.le_refl _) _, H.2.1.put 7 _, H.2.2.other (by omega) _ _⟩
theorem Copy0.set8 {w w1 : World} {h : Nat} {c : Ce} {p : Pl} (H : Copy0 w h c p w1) (ao : Option Addr) (ca : Nat) : Copy0 w h c { p with lo := ao, lc := ca } (w1.setCell ⟨h, 8, none⟩ (.slice ao c.elems.length ca)) :=
  ⟨H.1.setCell (p := ⟨h, 8, none⟩) (Nat.le_refl _) _, H.2.1.put 8 _, H.2.2.other (by omega) _ _⟩
theorem Copy0.set9 {w w1 : World} {h : Nat} {c : Ce} {p : Pl} (H : Copy0 w h c p w1) (ao : Option Addr) (ca : Nat) : Copy0 w h c { p with so := ao, sc := ca } (w1.setCell ⟨h, 9, none⟩ (.slice ao c.seen.length ca)) :=
  ⟨H.1.setCell (p := ⟨h, 9, none⟩) (Nat.le_refl _) _, H.2.1.put 9 _, H.2.2.other (by omega) _ _⟩

end Go.Proofs.Ytjfgccjdkflfoaa
