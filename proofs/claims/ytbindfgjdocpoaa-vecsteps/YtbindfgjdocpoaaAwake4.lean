/-
  The law's own first look at package vec ('awake'): it answers true.
-/
import Derived.Test.YtbindfgjdocpoaaVecMaxMin
import Derived.Test.YtbindfgjdocpoaaInts
import Derived.Test.YtbindfgjdocpoaaNum
namespace Go.Proofs.Ytbindfgjdocpoaa
open Go.RowKit
set_option linter.unusedVariables false

theorem row_one (w : World) (x : Int) : RowAt (w.alloc (.cells #[.int .i64 x] 3)) (some ⟨w.heap.size, 0, none⟩) [x] := fun _ => by
  refine ⟨w.heap.size, 0, rfl, by simp, fun i hi => ?_⟩
  match i, hi with
  | 0, _ => simp [World.cell?_alloc_at]

theorem row_two (w : World) (x y : Int) : RowAt (w.alloc (.cells #[.int .i64 x, .int .i64 y] 3)) (some ⟨w.heap.size, 0, none⟩) [x, y] := fun _ => by
  refine ⟨w.heap.size, 0, rfl, by simp, fun i hi => ?_⟩
  match i, hi with
  | 0, _ => simp [World.cell?_alloc_at]
  | 1, _ => simp [World.cell?_alloc_at]

theorem below_alloc (w : World) (o : Obj) : Below w.heap.size w (w.alloc o) := (Below.refl _ _).alloc (Nat.le_refl _) o

theorem row_then (w : World) {ao : Option Addr} {l : List Int} (h : RowAt w ao l) (o : Obj) : RowAt (w.alloc o) ao l := h.later (below_alloc w o)

theorem row_past (w : World) (o : Obj) (x y : Int) : RowAt ((w.alloc o).alloc (.cells #[.int .i64 x, .int .i64 y] 3)) (some ⟨w.heap.size + 1, 0, none⟩) [x, y] := by
  have h := row_two (w.alloc o) x y
  rwa [World.size_alloc] at h

theorem w_max : Ve.Made max [1, 5] [3, 2] [3, 5] 0 := Or.inl ⟨by unfold Ve.Alike Ve.May; decide, by decide, rfl⟩
theorem w_min : Ve.Made min [1, 5] [3, 2] [1, 2] 0 := Or.inl ⟨by unfold Ve.Alike Ve.May; decide, by decide, rfl⟩
theorem w_bad : Ve.Made max [1] [1, 2] [] 400 := Or.inr ⟨by unfold Ve.Alike Ve.May; decide, rfl, rfl⟩
theorem w_may : true = true ↔ Ve.May [0, 4] 2 := by simp only [true_iff]; unfold Ve.May; decide
theorem w_may2 : false = true ↔ Ve.May [0, -1] 2 := by simp only [Bool.false_eq_true, false_iff]; unfold Ve.May; decide
theorem w_has : true = true ↔ Ve.Has [0, 4] 1 4 := by simp only [true_iff]; unfold Ve.Has; decide
theorem w_has2 : false = true ↔ Ve.Has [0, 4] 1 5 := by simp only [Bool.false_eq_true, false_iff]; unfold Ve.Has; decide
theorem w_under : true = true ↔ Ve.Under [1, 2] [1, 3] := by simp only [true_iff]; unfold Ve.Under Ve.Alike Ve.May; decide
theorem w_under2 : false = true ↔ Ve.Under [2, 2] [1, 3] := by simp only [Bool.false_eq_true, false_iff]; unfold Ve.Under Ve.Alike Ve.May; decide

theorem then1 {w w0 w1 : World} {o : Obj} (h : Below w.heap.size w w0) (h2 : Below (w0.alloc o).heap.size (w0.alloc o) w1) : Below w.heap.size w w1 := thenB (h.alloc h.size o) h2

theorem then2 {w w0 w1 : World} {o o' : Obj} (h : Below w.heap.size w w0) (h2 : Below ((w0.alloc o).alloc o').heap.size ((w0.alloc o).alloc o') w1) : Below w.heap.size w w1 :=
  thenB ((h.alloc h.size o).alloc (h.alloc h.size o).size o') h2

theorem may_b (ao : Option Addr) (cap : Nat) (l : List Int) (n : Int) (w : World) (hr : RowAt w ao l) {b : Bool} (h : b = true ↔ Ve.May l n) :
    Calls Try.prog 16 #[.slice ao l.length cap, .int .i64 n] w fun e w' => e = .returned (.bool b) ∧ Below w.heap.size w w' :=
  (may_any ao cap l n w hr h).mono fun e w' ⟨he, hw⟩ => ⟨he, by rw [hw]; exact Below.refl _ _⟩

theorem same_b (ao bo : Option Addr) (ca cb : Nat) (a b : List Int) (w : World) (ha : RowAt w ao a) (hb : RowAt w bo b) (hla : a.length ≤ maxLen) {r : Bool} (h : r = true ↔ a = b) :
    Calls Try.prog 13 #[.slice ao a.length ca, .slice bo b.length cb] w fun e w' => e = .returned (.bool r) ∧ Below w.heap.size w w' :=
  (same_any ao bo ca cb a b w ha hb hla h).mono fun e w' ⟨he, hw, _⟩ => ⟨he, hw⟩

theorem under_b (ao bo : Option Addr) (ca cb : Nat) (a b : List Int) (w : World) (ha : RowAt w ao a) (hb : RowAt w bo b) {r : Bool} (h : r = true ↔ Ve.Under a b) :
    Calls Try.prog 20 #[.slice ao a.length ca, .slice bo b.length cb] w fun e w' => e = .returned (.bool r) ∧ Below w.heap.size w w' :=
  (under_any ao bo ca cb a b w ha hb h).mono fun e w' ⟨he, hw, _⟩ => ⟨he, hw⟩

set_option maxHeartbeats 1000000 in
set_option maxRecDepth 100000 in
theorem awake_any (w : World) :
    Calls Try.prog 23 #[] w fun e w' => e = .returned (.bool true) ∧ Below w.heap.size w w' := by
  go_enter Try.func23, Try.ntmps23
  go_wp2_with fail
  refine (max_any (some ⟨_, 0, none⟩) (some ⟨_, 0, none⟩) 2 2 [1, 5] [3, 2] _ (row_then _ (row_two _ 1 5) _) (row_past _ _ 3 2) w_max).mono ?_
  rintro e w1 ⟨ro1, rc1, rfl, r1, h1⟩
  have g1 := then2 (Below.refl _ _) h1
  clear h1
  go_wp2_with fail
  refine (min_any (some ⟨_, 0, none⟩) (some ⟨_, 0, none⟩) 2 2 [1, 5] [3, 2] _ (row_then _ (row_two _ 1 5) _) (row_past _ _ 3 2) w_min).mono ?_
  rintro e w2 ⟨ro2, rc2, rfl, r2, h2⟩
  have g2 := then2 (Below.refl _ _) h2
  clear h2
  go_wp2_with fail
  refine (max_any (some ⟨_, 0, none⟩) (some ⟨_, 0, none⟩) 1 2 [1] [1, 2] _ (row_then _ (row_one _ 1) _) (row_past _ _ 1 2) w_bad).mono ?_
  rintro e w3 ⟨ro3, rc3, rfl, r3, h3⟩
  have g3 := then2 (Below.refl _ _) h3
  clear h3 r3
  go_wp2_with fail
  refine (may_b (some ⟨_, 0, none⟩) 2 [0, 4] 2 _ (row_two _ 0 4) w_may).mono ?_
  rintro e w4 ⟨rfl, h4⟩
  have g4 := then1 g3 h4
  clear h4
  go_wp2_with fail
  refine (may_b (some ⟨_, 0, none⟩) 2 [0, -1] 2 _ (row_two _ 0 (-1)) w_may2).mono ?_
  rintro e w5 ⟨rfl, h5⟩
  have g5 := then1 g4 h5
  clear h5
  go_wp2_with fail
  refine (has_any (some ⟨_, 0, none⟩) 2 [0, 4] 1 4 _ (row_two _ 0 4) w_has).mono ?_
  rintro e w6 ⟨rfl, h6⟩
  have g6 := then1 g5 h6
  clear h6
  go_wp2_with fail
  refine (has_any (some ⟨_, 0, none⟩) 2 [0, 4] 1 5 _ (row_two _ 0 4) w_has2).mono ?_
  rintro e w7 ⟨rfl, h7⟩
  have g7 := then1 g6 h7
  clear h7
  have q1 : RowAt w7 ro1 [3, 5] := (r1.row.later g2).later g7
  have q2 : RowAt w7 ro2 [1, 2] := r2.row.later g7
  go_wp2_with fail
  refine (same_b ro1 (some ⟨_, 0, none⟩) rc1 2 [3, 5] [3, 5] _ (row_then _ q1 _) (row_two _ 3 5) (by decide) (r := true) (by simp)).mono ?_
  rintro e w8 ⟨rfl, h8⟩
  have g8 := then1 (Below.refl _ _) h8
  clear h8
  go_wp2_with (go_at_call 14; refine (num_any _ _).mono ?_; rintro e w0 ⟨rfl, rfl⟩)
  refine (same_b ro2 (some ⟨_, 0, none⟩) rc2 2 [1, 2] [1, 2] _ (row_then _ (q2.later g8) _) (row_two _ 1 2) (by decide) (r := true) (by simp)).mono ?_
  rintro e w9 ⟨rfl, h9⟩
  have g9 := then1 g8 h9
  clear h9
  go_wp2_with (go_at_call 14; refine (num_any _ _).mono ?_; rintro e w0 ⟨rfl, rfl⟩)
  refine (under_b (some ⟨_, 0, none⟩) (some ⟨_, 0, none⟩) 2 2 [1, 2] [1, 3] _ (row_then _ (row_two _ 1 2) _) (row_past _ _ 1 3) w_under).mono ?_
  rintro e w10 ⟨rfl, h10⟩
  have g10 := then2 g9 h10
  clear h10
  go_wp2_with fail
  refine (under_b (some ⟨_, 0, none⟩) (some ⟨_, 0, none⟩) 2 2 [2, 2] [1, 3] _ (row_then _ (row_two _ 2 2) _) (row_past _ _ 1 3) w_under2).mono ?_
  rintro e w11 ⟨rfl, h11⟩
  have g11 := then2 g10 h11
  clear h11
  go_wp2
  go_ret
  exact ⟨rfl, thenB (thenB (thenB (thenB g1 g2) g7) g11) (Below.refl _ _)⟩

end Go.Proofs.Ytbindfgjdocpoaa
