/-
  A cell turned in a region that draws its order, whatever its ten cells: what the region keeps, what it ends with, a round's end.
-/
import Derived.Test.YtghlegidapmpmaaCeGen
import Derived.Deep.RegionHeld3
import Derived.Deep.Cut
import Derived.Deep.CutBlock
import Derived.BigQuiet
namespace Go.Proofs.Ytghlegidapmpmaa
open Go.RowKit
set_option linter.unusedVariables false
set_option linter.unusedSimpArgs false

/-- Where the region begins: the cell's block g, a further cell that is read. -/
structure SrcT (w1 : World) (B g : Nat) (u0 u1 u2 u3 u4 u5 u6 u7 u8 u9 : Value) (bk o : Nat) (u : Value) : Prop where
  hB : w1.heap.size = B
  hg : Has w1 g [u0, u1, u2, u3, u4, u5, u6, u7, u8, u9]
  hk : bk < B
  hu : w1.cell? ⟨bk, o, none⟩ = some u

/-- What the region keeps. -/
abbrev HeldT (w1 : World) (B g : Nat) (u0 u1 u2 u3 u4 u5 u6 u7 u8 u9 : Value) (bk o : Nat) (u : Value) (W : World) : Prop :=
  Hid (Below B w1 W ∧ B ≤ W.heap.size) ∧ W.cell? ⟨g, 0, none⟩ = some u0 ∧ W.cell? ⟨g, 1, none⟩ = some u1 ∧ W.cell? ⟨g, 2, none⟩ = some u2 ∧ W.cell? ⟨g, 3, none⟩ = some u3 ∧ W.cell? ⟨g, 4, none⟩ = some u4 ∧ W.cell? ⟨g, 5, none⟩ = some u5 ∧ W.cell? ⟨g, 6, none⟩ = some u6 ∧ W.cell? ⟨g, 7, none⟩ = some u7 ∧ W.cell? ⟨g, 8, none⟩ = some u8 ∧ W.cell? ⟨g, 9, none⟩ = some u9 ∧ W.cell? ⟨bk, o, none⟩ = some u

section
variable {w1 W : World} {B C g bk o : Nat} {u0 u1 u2 u3 u4 u5 u6 u7 u8 u9 u v0 v1 v2 v3 v4 v5 v6 v7 v8 v9 : Value}

theorem heldT_of (hs : SrcT w1 B g u0 u1 u2 u3 u4 u5 u6 u7 u8 u9 bk o u) (hb : Below B w1 W ∧ B ≤ W.heap.size) : HeldT w1 B g u0 u1 u2 u3 u4 u5 u6 u7 u8 u9 bk o u W := by
  have h1 := (hs.hg.under (by rw [← hs.hB]; exact hs.hg.1) hb.1).ten
  have h2 := (hb.1.cell (p := ⟨bk, o, none⟩) (by exact hs.hk)).trans hs.hu
  exact ⟨hb, h1.1, h1.2.1, h1.2.2.1, h1.2.2.2.1, h1.2.2.2.2.1, h1.2.2.2.2.2.1, h1.2.2.2.2.2.2.1, h1.2.2.2.2.2.2.2.1, h1.2.2.2.2.2.2.2.2.1, h1.2.2.2.2.2.2.2.2.2, h2⟩

theorem heldT_later {W' : World} (hs : SrcT w1 B g u0 u1 u2 u3 u4 u5 u6 u7 u8 u9 bk o u) (hb : Below W.heap.size W W') (h : HeldT w1 B g u0 u1 u2 u3 u4 u5 u6 u7 u8 u9 bk o u W) : HeldT w1 B g u0 u1 u2 u3 u4 u5 u6 u7 u8 u9 bk o u W' :=
  heldT_of hs ⟨h.1.out.1.trans (hb.mono h.1.out.2), Nat.le_trans h.1.out.2 hb.size⟩

theorem heldT_drew (hs : SrcT w1 B g u0 u1 u2 u3 u4 u5 u6 u7 u8 u9 bk o u) : HeldT w1 B g u0 u1 u2 u3 u4 u5 u6 u7 u8 u9 bk o u w1.drew := heldT_of hs ⟨(Below.refl _ _).drew, by have := hs.hB; exact Nat.le_of_eq this.symm⟩

theorem heldT_alloc (hs : SrcT w1 B g u0 u1 u2 u3 u4 u5 u6 u7 u8 u9 bk o u) (x : Obj) (h : HeldT w1 B g u0 u1 u2 u3 u4 u5 u6 u7 u8 u9 bk o u W) : HeldT w1 B g u0 u1 u2 u3 u4 u5 u6 u7 u8 u9 bk o u (W.alloc x) :=
  heldT_later hs ((Below.refl _ _).alloc (Nat.le_refl _) _) h

theorem heldT_first (hs : SrcT w1 B g u0 u1 u2 u3 u4 u5 u6 u7 u8 u9 bk o u) (x : Obj) : HeldT w1 B g u0 u1 u2 u3 u4 u5 u6 u7 u8 u9 bk o u (w1.alloc x).drew :=
  heldT_of hs ⟨((Below.refl _ _).alloc (Nat.le_of_eq hs.hB.symm) x).drew, by have e : (w1.alloc x).drew.heap.size = w1.heap.size + 1 := by simp
                                                                             have := hs.hB; omega⟩

/-- The place of the answer, made ahead of it. -/
def NineT (B C : Nat) (w : World) (k : Nat) : Prop := Has w k (zl 0) ∧ B ≤ k ∧ k < C

theorem nineT_new {w w3 : World} {t : TypeId} (h : B ≤ w.heap.size) (hb : Below (w.alloc (.cells (zl 0).toArray t)).heap.size (w.alloc (.cells (zl 0).toArray t)) w3) : NineT B (w.alloc (.cells (zl 0).toArray t)).heap.size w3 w.heap.size :=
  ⟨(has_new w (zl 0) t).later hb, h, by simp⟩

theorem nineT_newd {w w3 : World} {t : TypeId} (h : B ≤ w.heap.size) (hb : Below (w.alloc (.cells (zl 0).toArray t)).drew.heap.size (w.alloc (.cells (zl 0).toArray t)).drew w3) : NineT B (w.alloc (.cells (zl 0).toArray t)).drew.heap.size w3 w.heap.size :=
  ⟨((has_new w (zl 0) t).later (Below.refl _ _).drew).later hb, h, by show w.heap.size < (w.alloc (.cells (zl 0).toArray t)).heap.size; simp⟩

theorem nineT_ten {w : World} {k : Nat} (h : NineT B C w k) : w.cell? ⟨k, 0, none⟩ = some (.int .i64 0) ∧ w.cell? ⟨k, 1, none⟩ = some (.bool false) ∧ w.cell? ⟨k, 2, none⟩ = some (.int .i64 0) ∧ w.cell? ⟨k, 3, none⟩ = some (.int .i64 0) ∧ w.cell? ⟨k, 4, none⟩ = some (.string ⟨#[]⟩) ∧ w.cell? ⟨k, 5, none⟩ = some (.int .i64 0) ∧ w.cell? ⟨k, 6, none⟩ = some (.int .i64 0) ∧ w.cell? ⟨k, 7, none⟩ = some (.slice none 0 0) ∧ w.cell? ⟨k, 8, none⟩ = some (.slice none 0 0) ∧ w.cell? ⟨k, 9, none⟩ = some (.slice none 0 0) := h.1.ten

theorem nineT_tenf {w : World} {k : Nat} (h : NineT B C w k) : w.frozen? ⟨k, 0, none⟩ = false ∧ w.frozen? ⟨k, 1, none⟩ = false ∧ w.frozen? ⟨k, 2, none⟩ = false ∧ w.frozen? ⟨k, 3, none⟩ = false ∧ w.frozen? ⟨k, 4, none⟩ = false ∧ w.frozen? ⟨k, 5, none⟩ = false ∧ w.frozen? ⟨k, 6, none⟩ = false ∧ w.frozen? ⟨k, 7, none⟩ = false ∧ w.frozen? ⟨k, 8, none⟩ = false ∧ w.frozen? ⟨k, 9, none⟩ = false := h.1.tenf

theorem nineT_later {w w3 : World} {k : Nat} (h : NineT B C w k) (hb : Below w.heap.size w w3) : NineT B w.heap.size w3 k := ⟨h.1.later hb, h.2.1, h.1.1⟩

theorem heldT_put {k : Nat} (hs : SrcT w1 B g u0 u1 u2 u3 u4 u5 u6 u7 u8 u9 bk o u) (t : NineT B C W k) (h : HeldT w1 B g u0 u1 u2 u3 u4 u5 u6 u7 u8 u9 bk o u W) (v0 v1 v2 v3 v4 v5 v6 v7 v8 v9 : Value) : HeldT w1 B g u0 u1 u2 u3 u4 u5 u6 u7 u8 u9 bk o u (put10 W k v0 v1 v2 v3 v4 v5 v6 v7 v8 v9) :=
  heldT_of hs ⟨below_put10 h.1.out.1 t.2.1 _ _ _ _ _ _ _ _ _ _, by have := h.1.out.2; simpa using this⟩

theorem heldT_swap {x : Obj} (hs : SrcT w1 B g u0 u1 u2 u3 u4 u5 u6 u7 u8 u9 bk o u) (hB : B ≤ W.heap.size) (h : HeldT w1 B g u0 u1 u2 u3 u4 u5 u6 u7 u8 u9 bk o u (W.alloc x)) (y : Obj) : HeldT w1 B g u0 u1 u2 u3 u4 u5 u6 u7 u8 u9 bk o u (W.alloc y) := by
  have h0 := h.1.out.1
  refine heldT_of hs ⟨⟨h0.os, h0.tape, h0.output, by simpa using h0.size, fun i hi => ?_⟩, by simp; omega⟩
  rw [← h0.block i hi, Below.heap_alloc _ _ _ (by omega), Below.heap_alloc _ _ _ (by omega)]

/-- Behind the region: the answer lies in a new place, its row in memory of its own, all below is as it was. -/
def EndT (w1 : World) (B : Nat) (ao : Option Addr) (xs : List Value) (k : Nat) (v0 v1 v2 v3 v4 v5 v6 v7 v8 v9 : Value) (W : World) : Prop := B ≤ k ∧ Has W k [v0, v1, v2, v3, v4, v5, v6, v7, v8, v9] ∧ FOwn B W ao xs ∧ Below B w1 W

theorem endT_put {k : Nat} {ao : Option Addr} {xs : List Value} (t : NineT B C W k) (O : FOwn C W ao xs) (h : HeldT w1 B g u0 u1 u2 u3 u4 u5 u6 u7 u8 u9 bk o u (put10 W k v0 v1 v2 v3 v4 v5 v6 v7 v8 v9)) : EndT w1 B ao xs k v0 v1 v2 v3 v4 v5 v6 v7 v8 v9 (put10 W k v0 v1 v2 v3 v4 v5 v6 v7 v8 v9) :=
  ⟨t.2.1, t.1.put10 _ _ _ _ _ _ _ _ _ _, (O.put10 t.2.2 _ _ _ _ _ _ _ _ _ _).mono (by have := t.2.1; have := t.2.2; omega), h.1.out.1⟩

theorem endT_new {ao : Option Addr} {xs : List Value} (t : TypeId) (hC : B ≤ C) (hB : B ≤ W.heap.size) (O : FOwn C W ao xs) (h : HeldT w1 B g u0 u1 u2 u3 u4 u5 u6 u7 u8 u9 bk o u (W.alloc (.cells #[v0, v1, v2, v3, v4, v5, v6, v7, v8, v9] t))) :
    EndT w1 B ao xs W.heap.size v0 v1 v2 v3 v4 v5 v6 v7 v8 v9 (W.alloc (.cells #[v0, v1, v2, v3, v4, v5, v6, v7, v8, v9] t)) :=
  ⟨hB, has_new W [v0, v1, v2, v3, v4, v5, v6, v7, v8, v9] t, (O.mono hC).later ((Below.refl _ _).alloc (Nat.le_refl _) _), h.1.out.1⟩

end

/-- The answer written over the cell: a round's end. -/
theorem roundT {h : Nat} {w w4 : World} {g B : Nat} {u0 u1 u2 u3 u4 u5 u6 u7 u8 u9 : Value} {ao : Option Addr} {xs : List Value} {L : List (Nat × List Value)} (H : Has w4 g [u0, u1, u2, u3, u4, u5, u6, u7, u8, u9]) (hR : Regs h w w4 L) (O : FOwn B w4 ao xs) (hg : h ≤ g) (hB : g < B) (hL : ∀ e ∈ L, e.1 ≠ g) (v0 v1 v2 v3 v4 v5 v6 v7 v8 v9 : Value) :
    Regs h w (put10 w4 g v0 v1 v2 v3 v4 v5 v6 v7 v8 v9) ((g, [v0, v1, v2, v3, v4, v5, v6, v7, v8, v9]) :: L) ∧ FOwn (g + 1) (put10 w4 g v0 v1 v2 v3 v4 v5 v6 v7 v8 v9) ao xs := by
  refine ⟨⟨H.put10 _ _ _ _ _ _ _ _ _ _, ?_⟩, (O.put10 hB _ _ _ _ _ _ _ _ _ _).mono (by omega)⟩
  induction L with
  | nil => exact ⟨below_put10 hR.1 hg _ _ _ _ _ _ _ _ _ _, by have := hR.2; simpa using this⟩
  | cons e L ih =>
    refine ⟨?_, ih hR.2 fun x hx => hL x (by simp [hx])⟩
    have hne := hL e (by simp)
    repeat apply Has.other (hk := by exact hne.symm)
    exact hR.1

theorem Regs.underT {h B : Nat} {w w1 w2 : World} {L : List (Nat × List Value)} (H : Regs h w w1 L) (hL : ∀ e ∈ L, e.1 < B) (hB : h ≤ B) (hb : Below B w1 w2) : Regs h w w2 L := by
  induction L with
  | nil => exact ⟨H.1.trans (hb.mono hB), Nat.le_trans H.2 hb.size⟩
  | cons e L ih => exact ⟨H.1.under (hL e (by simp)) hb, ih H.2 fun e he => hL e (by simp [he])⟩

end Go.Proofs.Ytghlegidapmpmaa
