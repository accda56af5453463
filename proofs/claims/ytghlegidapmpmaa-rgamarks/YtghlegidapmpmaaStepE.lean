/-
  An element made in a region that draws its order: what the region keeps, what it ends with.
-/
import Derived.Test.YtghlegidapmpmaaStepL
import Derived.Test.YtghlegidapmpmaaInsR10
import Derived.Test.YtghlegidapmpmaaLists10
namespace Go.Proofs.Ytghlegidapmpmaa
open Go.RowKit
set_option linter.unusedVariables false
set_option linter.unusedSimpArgs false

abbrev putE (w : World) (g : Nat) (u0 u1 u2 u3 u4 : Value) : World := ((((w.setCell ⟨g, 0, none⟩ u0).setCell ⟨g, 1, none⟩ u1).setCell ⟨g, 2, none⟩ u2).setCell ⟨g, 3, none⟩ u3).setCell ⟨g, 4, none⟩ u4
abbrev ze : List Value := [.int .i64 0, .int .i64 0, .int .i64 0, .string ⟨#[]⟩, .bool false]
theorem below_putE {B : Nat} {a w : World} (h : Below B a w) {g : Nat} (hg : B ≤ g) (u0 u1 u2 u3 u4 : Value) : Below B a (putE w g u0 u1 u2 u3 u4) :=
  ((((h.setCell (p := ⟨g, 0, none⟩) hg _).setCell (p := ⟨g, 1, none⟩) hg _).setCell (p := ⟨g, 2, none⟩) hg _).setCell (p := ⟨g, 3, none⟩) hg _).setCell (p := ⟨g, 4, none⟩) hg _
theorem Has.putE {w : World} {g : Nat} {v0 v1 v2 v3 v4 : Value} (h : Has w g [v0, v1, v2, v3, v4]) (u0 u1 u2 u3 u4 : Value) : Has (putE w g u0 u1 u2 u3 u4) g [u0, u1, u2, u3, u4] :=
  ((((h.put 0 u0).put 1 u1).put 2 u2).put 3 u3).put 4 u4

/-- Where the region begins: a cell that is read. -/
structure SrcE (w1 : World) (B bk o : Nat) (u : Value) : Prop where
  hB : w1.heap.size = B
  hk : bk < B
  hu : w1.cell? ⟨bk, o, none⟩ = some u

/-- What the region keeps. -/
abbrev HeldE (w1 : World) (B bk o : Nat) (u : Value) (W : World) : Prop := Hid (Below B w1 W ∧ B ≤ W.heap.size) ∧ W.cell? ⟨bk, o, none⟩ = some u

section
variable {w1 W : World} {B C bk o : Nat} {u v0 v1 v2 v3 v4 : Value}

theorem heldE_of (hs : SrcE w1 B bk o u) (hb : Below B w1 W ∧ B ≤ W.heap.size) : HeldE w1 B bk o u W := ⟨hb, (hb.1.cell (p := ⟨bk, o, none⟩) (by exact hs.hk)).trans hs.hu⟩
theorem heldE_later {W' : World} (hs : SrcE w1 B bk o u) (hb : Below W.heap.size W W') (h : HeldE w1 B bk o u W) : HeldE w1 B bk o u W' :=
  heldE_of hs ⟨h.1.out.1.trans (hb.mono h.1.out.2), Nat.le_trans h.1.out.2 hb.size⟩
theorem heldE_drew (hs : SrcE w1 B bk o u) : HeldE w1 B bk o u w1.drew := heldE_of hs ⟨(Below.refl _ _).drew, by have := hs.hB; exact Nat.le_of_eq this.symm⟩
theorem heldE_alloc (hs : SrcE w1 B bk o u) (x : Obj) (h : HeldE w1 B bk o u W) : HeldE w1 B bk o u (W.alloc x) :=
  heldE_later hs ((Below.refl _ _).alloc (Nat.le_refl _) _) h
theorem heldE_first (hs : SrcE w1 B bk o u) (x : Obj) : HeldE w1 B bk o u (w1.alloc x).drew :=
  heldE_of hs ⟨((Below.refl _ _).alloc (Nat.le_of_eq hs.hB.symm) x).drew, by have e : (w1.alloc x).drew.heap.size = w1.heap.size + 1 := by simp
                                                                             have := hs.hB; omega⟩

/-- The place of the element, made ahead of it. -/
def FiveE (B C : Nat) (w : World) (k : Nat) : Prop := Has w k ze ∧ B ≤ k ∧ k < C
theorem fiveE_new {w w3 : World} {t : TypeId} (h : B ≤ w.heap.size) (hb : Below (w.alloc (.cells ze.toArray t)).heap.size (w.alloc (.cells ze.toArray t)) w3) : FiveE B (w.alloc (.cells ze.toArray t)).heap.size w3 w.heap.size :=
  ⟨(has_new w ze t).later hb, h, by simp⟩
theorem fiveE_newd {w w3 : World} {t : TypeId} (h : B ≤ w.heap.size) (hb : Below (w.alloc (.cells ze.toArray t)).drew.heap.size (w.alloc (.cells ze.toArray t)).drew w3) : FiveE B (w.alloc (.cells ze.toArray t)).drew.heap.size w3 w.heap.size :=
  ⟨((has_new w ze t).later (Below.refl _ _).drew).later hb, h, by show w.heap.size < (w.alloc (.cells ze.toArray t)).heap.size; simp⟩
theorem fiveE_five {w : World} {k : Nat} (h : FiveE B C w k) : w.cell? ⟨k, 0, none⟩ = some (.int .i64 0) ∧ w.cell? ⟨k, 1, none⟩ = some (.int .i64 0) ∧ w.cell? ⟨k, 2, none⟩ = some (.int .i64 0) ∧ w.cell? ⟨k, 3, none⟩ = some (.string ⟨#[]⟩) ∧ w.cell? ⟨k, 4, none⟩ = some (.bool false) := h.1.five
theorem fiveE_fivef {w : World} {k : Nat} (h : FiveE B C w k) : w.frozen? ⟨k, 0, none⟩ = false ∧ w.frozen? ⟨k, 1, none⟩ = false ∧ w.frozen? ⟨k, 2, none⟩ = false ∧ w.frozen? ⟨k, 3, none⟩ = false ∧ w.frozen? ⟨k, 4, none⟩ = false := ⟨h.1.free 0 rfl, h.1.free 1 rfl, h.1.free 2 rfl, h.1.free 3 rfl, h.1.free 4 rfl⟩
theorem fiveE_later {w w3 : World} {k : Nat} (h : FiveE B C w k) (hb : Below w.heap.size w w3) : FiveE B w.heap.size w3 k := ⟨h.1.later hb, h.2.1, h.1.1⟩
theorem heldE_put {k : Nat} (hs : SrcE w1 B bk o u) (t : FiveE B C W k) (h : HeldE w1 B bk o u W) (v0 v1 v2 v3 v4 : Value) : HeldE w1 B bk o u (putE W k v0 v1 v2 v3 v4) :=
  heldE_of hs ⟨below_putE h.1.out.1 t.2.1 _ _ _ _ _, by have := h.1.out.2; simpa using this⟩
theorem heldE_swap {x : Obj} (hs : SrcE w1 B bk o u) (hB : B ≤ W.heap.size) (h : HeldE w1 B bk o u (W.alloc x)) (y : Obj) : HeldE w1 B bk o u (W.alloc y) := by
  have h0 := h.1.out.1
  refine heldE_of hs ⟨⟨h0.os, h0.tape, h0.output, by simpa using h0.size, fun i hi => ?_⟩, by simp; omega⟩
  rw [← h0.block i hi, Below.heap_alloc _ _ _ (by omega), Below.heap_alloc _ _ _ (by omega)]

/-- Behind the region: the element lies in a new place. -/
def EndE (w1 : World) (B k : Nat) (v0 v1 v2 v3 v4 : Value) (W : World) : Prop := B ≤ k ∧ Has W k [v0, v1, v2, v3, v4] ∧ Below B w1 W
theorem endE_put {k : Nat} (t : FiveE B C W k) (h : HeldE w1 B bk o u (putE W k v0 v1 v2 v3 v4)) : EndE w1 B k v0 v1 v2 v3 v4 (putE W k v0 v1 v2 v3 v4) := ⟨t.2.1, t.1.putE _ _ _ _ _, h.1.out.1⟩
theorem endE_new (t : TypeId) (hB : B ≤ W.heap.size) (h : HeldE w1 B bk o u (W.alloc (.cells #[v0, v1, v2, v3, v4] t))) : EndE w1 B W.heap.size v0 v1 v2 v3 v4 (W.alloc (.cells #[v0, v1, v2, v3, v4] t)) :=
  ⟨hB, has_new W [v0, v1, v2, v3, v4] t, h.1.out.1⟩
end
end Go.Proofs.Ytghlegidapmpmaa
