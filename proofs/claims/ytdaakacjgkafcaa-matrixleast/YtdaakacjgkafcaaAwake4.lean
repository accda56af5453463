/-
  The law's own first look at package vec ('awake'): it answers true.
-/
import Derived.Test.YtdaakacjgkafcaaVecMaxMin
import Derived.Test.YtdaakacjgkafcaaInts
import Derived.Test.YtdaakacjgkafcaaNum
namespace Go.Proofs.Ytdaakacjgkafcaa
open Go.RowKit
set_option linter.unusedVariables false

theorem row_one (w : World) (x : Int) : RowAt (w.alloc (.cells #[.int .i64 x] 3)) (some ⟨w.heap.size, 0, none⟩) [x] := fun _ => by
  refine ⟨w.heap.size, 0, rfl, by simp, fun i hi => ?_⟩
  match i, hi with
  | 0, _ => simp [World.cell?_alloc_at]

theorem row_two (w : World) (x y : Int) : RowAt (w.alloc (.cells #[.int .i64 x, .int .i64 y] 3)) (some ⟨w.heap.size, 0, none⟩) [x, y] := fun _ => by
  refine ⟨w.heap.size, 0, rfl, by simp, fun i hi => ?_⟩
  match i, hi with
  | 0, _ => simp [World.cell?_alloc_at]
  | 1, _ => simp [World.cell?_alloc_at]

theorem below_alloc (w : World) (o : Obj) : Below w.heap.size w (w.alloc o) := (Below.refl _ _).alloc (Nat.le_refl _) o

theorem row_then (w : World) {ao : Option Addr} {l : List Int} (h : RowAt w ao l) (o : Obj) : RowAt (w.alloc o) ao l := h.later (below_alloc w o)

theorem row_past (w : World) (o : Obj) (x y : Int) : RowAt ((w.alloc o).alloc (.cells #[.int .i64 x, .int .i64 y] 3)) (some ⟨w.heap.size + 1, 0, none⟩) [x, y] := by
  have h := row_two (w.alloc o) x y
  rwa [World.size_alloc] at h

theorem w_max : Ve.Made max [1, 5] [3, 2] [3, 5] 0 := Or.inl ⟨by unfold Ve.Alike Ve.May; decide, by decide, rfl⟩
theorem w_min : Ve.Made min [1, 5] [3, 2] [1, 2] 0 := Or.inl ⟨by unfold Ve.Alike Ve.May; decide, by decide, rfl⟩
theorem w_bad : Ve.Made max [1] [1, 2] [] 400 := Or.inr ⟨by unfold Ve.Alike Ve.May; decide, rfl, rfl⟩
theorem w_may : true = true ↔ Ve.May [0, 4] 2 := by simp only [true_iff]; unfold Ve.May; decide
theorem w_may2 : false = true ↔ Ve.May [0, -1] 2 := by simp only [Bool.false_eq_true, false_iff]; unfold Ve.May; decide
theorem w_has : true = true ↔ Ve.Has [0, 4] 1 4 := by simp only [true_iff]; unfold Ve.Has; decide
theorem w_has2 : false = true ↔ Ve.Has [0, 4] 1 5 := by simp only [Bool.false_eq_true, false_iff]; unfold Ve.Has; decide
theorem w_under : true = true ↔ Ve.Under [1, 2] [1, 3] := by simp only [true_iff]; unfold Ve.Under Ve.Alike Ve.May; decide
theorem w_under2 : false = true ↔ Ve.Under [2, 2] [1, 3] := by simp only [Bool.false_eq_true, false_iff]; unfold Ve.Under Ve.Alike Ve.May; decide

theorem then1 {w w0 w1 : World} {o : Obj} (h : Below w.heap.size w w0) (h2 : Below (w0.alloc o).heap.size (w0.alloc o) w1) : Below w.heap.size w w1 := thenB (h.alloc h.size o) h2

theorem then2 {w w0 w1 : World} {o o' : Obj} (h : Below w.heap.size w w0) (h2 : Below ((w0.alloc o).alloc o').heap.size ((w0.alloc o).alloc o') w1) : Below w.heap.size w w1 :=
  thenB ((h.alloc h.size o).alloc (h.alloc h.size o).size o') h2

theorem may_b (ao : Option Addr) (cap : Nat) (l : List Int) (n : Int) (w : World) (hr : RowAt w ao l) {b : Bool} (h : b = true ↔ Ve.May l n) :
    Calls Try.prog 31 #[.slice ao l.length cap, .int .i64 n] w fun e w' => e = .returned (.bool b) ∧ Below w.heap.size w w' :=
  (may_any ao cap l n w hr h).mono fun e w' ⟨he, hw⟩ => ⟨he, by rw [hw]; exact Below.refl _ _⟩

theorem same_b (ao bo : Option Addr) (ca cb : Nat) (a b : List Int) (w : World) (ha : RowAt w ao a) (hb : RowAt w bo b) (hla : a.length ≤ maxLen) {r : Bool} (h : r = true ↔ a = b) :
    Calls Try.prog 16 #[.slice ao a.length ca, .slice bo b.length cb] w fun e w' => e = .returned (.bool r) ∧ Below w.heap.size w w' :=
  (same_any ao bo ca cb a b w ha hb hla h).mono fun e w' ⟨he, hw, _⟩ => ⟨he, hw⟩

end Go.Proofs.Ytdaakacjgkafcaa
