/-
  Copies of a cell: the laws' own, and the document's.
-/
import Derived.Test.YtjfgccjdkflfoaaCe
namespace Go.Proofs.Ytjfgccjdkflfoaa
open Go.RowKit
set_option linter.unusedVariables false
set_option linter.unusedSimpArgs false

/-- What a copy keeps: the cell itself in block h, room for the answer in block h + 1. -/
def Copy0 (w : World) (h : Nat) (c : Ce) (p : Pl) (w1 : World) : Prop := Below h w w1 ∧ Has w1 h (ceL c p) ∧ Has w1 (h + 1) (ceL ce0 pl0)
def Copy1 (w : World) (h : Nat) (c : Ce) (p : Pl) (ao : Option Addr) (w1 : World) : Prop := Below h w w1 ∧ Has w1 h (ceL c p) ∧ Has w1 (h + 1) (ceL ce0 pl0) ∧ FOwn (h + 2) w1 ao (flatE c.ents)
def Copy2 (w : World) (h : Nat) (c : Ce) (p : Pl) (ao : Option Addr) (ca : Nat) (bo : Option Addr) (w1 : World) : Prop := Below h w w1 ∧ Has w1 h (ceL c { p with eo := ao, ec := ca }) ∧ Has w1 (h + 1) (ceL ce0 pl0) ∧ FOwn (h + 2) w1 ao (flatE c.ents) ∧ FOwn (h + 2) w1 bo (flatL c.elems)
def Copy3 (w : World) (h : Nat) (c : Ce) (p : Pl) (ao : Option Addr) (ca : Nat) (bo : Option Addr) (cb : Nat) (so : Option Addr) (w1 : World) : Prop := Below h w w1 ∧ Has w1 h (ceL c { p with eo := ao, ec := ca, lo := bo, lc := cb }) ∧ Has w1 (h + 1) (ceL ce0 pl0) ∧ FOwn (h + 2) w1 ao (flatE c.ents) ∧ FOwn (h + 2) w1 bo (flatL c.elems) ∧ FOwn (h + 2) w1 so (flatI c.seen)

theorem copy0_new (w : World) (c : Ce) (p : Pl) (t : TypeId) : Copy0 w w.heap.size c p ((w.alloc (.cells (ceL c p).toArray t)).alloc (.cells (ceL ce0 pl0).toArray t)) := by
  refine ⟨((Below.refl _ _).alloc (Nat.le_refl _) _).alloc (by simp) _, (has_new _ _ _).alloc _, ?_⟩
  have := has_new (w.alloc (.cells (ceL c p).toArray t)) (ceL ce0 pl0) t
  simpa using this

theorem Copy0.size {w : World} {h : Nat} {c : Ce} {p : Pl} {w1 : World} (H : Copy0 w h c p w1) : h + 2 ≤ w1.heap.size := by have := H.2.2.1; omega
theorem Copy1.size {w : World} {h : Nat} {c : Ce} {p : Pl} {ao : Option Addr} {w1 : World} (H : Copy1 w h c p ao w1) : h + 2 ≤ w1.heap.size := by have := H.2.2.1.1; omega
theorem Copy2.size {w : World} {h : Nat} {c : Ce} {p : Pl} {ao : Option Addr} {ca : Nat} {bo : Option Addr} {w1 : World} (H : Copy2 w h c p ao ca bo w1) : h + 2 ≤ w1.heap.size := by have := H.2.2.1.1; omega

theorem copy1_of {w : World} {h B : Nat} {c : Ce} {p : Pl} {ao : Option Addr} {W w1 : World} {o : Obj} (hB : B = h + 2) (H : Copy0 w h c p W) (o1 : FOwn B w1 ao (flatE c.ents)) (b1 : Below B (W.alloc o) w1) : Copy1 w h c p ao w1 := by
  subst hB
  have hs := H.size
  exact ⟨(H.1.alloc (by omega) _).trans (b1.mono (by omega)), (H.2.1.alloc _).under (by omega) b1, (H.2.2.alloc _).under (by omega) b1, o1⟩

theorem copy2_of {w : World} {h k : Nat} {c : Ce} {p : Pl} {ao bo : Option Addr} {ca : Nat} {w1 w2 : World} {o : Obj} (hk : w1.heap.size = k) (H : Copy1 w h c p ao w1) (o2 : FOwn k w2 bo (flatL c.elems)) (b2 : Below k ((w1.setCell ⟨h, 7, none⟩ (.slice ao c.ents.length ca)).alloc o) w2) : Copy2 w h c p ao ca bo w2 := by
  subst hk
  have hs := H.size
  refine ⟨((H.1.setCell (p := ⟨h, 7, none⟩) (Nat.le_refl _) _).alloc (by simp; omega) _).trans (b2.mono (by omega)), ((H.2.1.put 7 _).alloc _).under (by omega) b2, ((H.2.2.1.other (by omega) _ _).alloc _).under (by omega) b2, ?_, o2.mono (by omega)⟩
  exact (H.2.2.2.off (g := h) (by omega) 7 _).kept (by simp) ((Below.refl _ _).alloc (Nat.le_refl _) _) b2

theorem copy3_of {w : World} {h k : Nat} {c : Ce} {p : Pl} {ao bo so : Option Addr} {ca cb : Nat} {w1 w2 : World} {o : Obj} (hk : w1.heap.size = k) (H : Copy2 w h c p ao ca bo w1) (o2 : FOwn k w2 so (flatI c.seen)) (b2 : Below k ((w1.setCell ⟨h, 8, none⟩ (.slice bo c.elems.length cb)).alloc o) w2) : Copy3 w h c p ao ca bo cb so w2 := by
  subst hk
  have hs := H.size
  refine ⟨((H.1.setCell (p := ⟨h, 8, none⟩) (Nat.le_refl _) _).alloc (by simp; omega) _).trans (b2.mono (by omega)), ((H.2.1.put 8 _).alloc _).under (by omega) b2, ((H.2.2.1.other (by omega) _ _).alloc _).under (by omega) b2, ?_, ?_, o2.mono (by omega)⟩
  · exact (H.2.2.2.1.off (g := h) (by omega) 8 _).kept (by simp) ((Below.refl _ _).alloc (Nat.le_refl _) _) b2
  · exact (H.2.2.2.2.off (g := h) (by omega) 8 _).kept (by simp) ((Below.refl _ _).alloc (Nat.le_refl _) _) b2

theorem copy1_row {w : World} {h : Nat} {c : Ce} {p : Pl} {ao : Option Addr} {w1 : World} (hh : w.heap.size = h) (H : Copy1 w h c p ao w1) (R : CRow w c p) (v : Value) (o : Obj) : CRow ((w1.setCell ⟨h, 7, none⟩ v).alloc o) c p := by
  subst hh
  have hs := H.size
  exact R.later ((H.1.setCell (p := ⟨w.heap.size, 7, none⟩) (Nat.le_refl _) _).alloc (by simp; omega) _)

theorem copy2_row {w : World} {h : Nat} {c : Ce} {p : Pl} {ao : Option Addr} {ca : Nat} {bo : Option Addr} {w1 : World} (hh : w.heap.size = h) (H : Copy2 w h c p ao ca bo w1) (R : CRow w c p) (v : Value) (o : Obj) : CRow ((w1.setCell ⟨h, 8, none⟩ v).alloc o) c p := by
  subst hh
  have hs := H.size
  exact R.later ((H.1.setCell (p := ⟨w.heap.size, 8, none⟩) (Nat.le_refl _) _).alloc (by simp; omega) _)

end Go.Proofs.Ytjfgccjdkflfoaa
