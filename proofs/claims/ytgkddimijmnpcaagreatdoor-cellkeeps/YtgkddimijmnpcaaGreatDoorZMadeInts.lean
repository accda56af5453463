/-
  'make([]int, n)': the world behind it; the row of zeros; a number stored into a row.
-/
import Derived.Test.YtgkddimijmnpcaaGreatDoorZVecMaxMin
namespace Go.Proofs.YtgkddimijmnpcaaGreatDoor
open Go.RowKit
set_option linter.unusedVariables false

/-- The world behind 'make([]int, n)'. -/
def madeW (n : Nat) (w : World) : World := w.alloc (.cells (madeCells (Value.int .i64 0).cells (n * 1)) 3)

theorem run_made (n : Nat) (w : World) (hn : n ≤ 100000) : (Instr.makeSlice 28 (.int .i64 (n : Int)) (.int .i64 (n : Int))).run Tryz.prog w = .ok (.slice (some ⟨w.heap.size, 0, none⟩) n n) (madeW n w) := by
  obtain ⟨i0, hi0, hz0, hz1, hz2⟩ := info_parts Tryz.infoInt
  have hr := run_make (P := Tryz.prog) w 28 3 i0 (.int .i64 0) Tryz.underlying28 hi0 hz0 .i64 .i64 n n (by omega) (Int.le_refl _) (by rw [hz2]; omega) (by omega)
  simp only [Int.toNat_natCast, hz1] at hr
  exact hr

theorem below_made (n : Nat) (w : World) : Below w.heap.size w (madeW n w) := (Below.refl _ _).alloc (Nat.le_refl _) _

theorem size_made (n : Nat) (w : World) : (madeW n w).heap.size = w.heap.size + 1 := by unfold madeW; simp

theorem own_made (n : Nat) (w : World) : OwnAt w.heap.size (madeW n w) (some ⟨w.heap.size, 0, none⟩) (List.replicate n 0) := fun h0 => by
  have hn : n = (List.replicate n (0 : Int)).length := by simp
  refine ⟨w.heap.size, 0, rfl, Nat.le_refl _, by rw [size_made]; omega, fun i hi => ?_⟩
  simp only [List.length_replicate] at hi
  rw [Nat.zero_add]
  constructor
  · unfold madeW
    rw [World.cell?_alloc_at _ _ _ _ rfl, ← Array.getElem?_toList, zeros_at n i hi]
    simp [List.getD, hi]
  · exact World.frozen?_alloc_at _ _ _ _ rfl

theorem OwnAt.set {B g : Nat} {w : World} {l : List Int} (h : OwnAt B w (some ⟨g, 0, none⟩) l) {j : Nat} (hj : j < l.length) (v : Int) : OwnAt B (w.setCell ⟨g, j, none⟩ (.int .i64 v)) (some ⟨g, 0, none⟩) (l.set j v) := fun h0 => by
  obtain ⟨b, off, e, hB, hb, hc⟩ := h (by omega)
  simp only [Option.some.injEq, Addr.mk.injEq, and_true] at e
  obtain ⟨rfl, rfl⟩ := e
  refine ⟨g, 0, rfl, hB, by simpa using hb, fun i hi => ?_⟩
  simp only [List.length_set] at hi
  have hci := hc i hi
  rw [Nat.zero_add] at hci ⊢
  rw [World.frozen?_setCell]
  refine ⟨?_, hci.2⟩
  by_cases e : j = i
  · subst e
    rw [World.cell?_setCell_same _ _ _ hci.1]
    simp [List.getD, hi]
  · rw [World.cell?_setCell_other _ _ _ _ (by first | (simp; done) | (simp; omega)), hci.1]
    simp [List.getD, List.getElem?_set_ne e]

theorem OwnAt.cellAt {B g : Nat} {w : World} {l : List Int} (h : OwnAt B w (some ⟨g, 0, none⟩) l) {j : Nat} (hj : j < l.length) : w.cell? ⟨g, j, none⟩ = some (.int .i64 (l.getD j 0)) ∧ w.frozen? ⟨g, j, none⟩ = false := by
  obtain ⟨b, off, e, hB, hb, hc⟩ := h (by omega)
  simp only [Option.some.injEq, Addr.mk.injEq, and_true] at e
  obtain ⟨rfl, rfl⟩ := e
  have := hc j hj
  rwa [Nat.zero_add] at this

theorem may_n {ao : Option Addr} {cap : Nat} {l : List Int} {n : Nat} {m : Int} {w : World} {b : Bool} (hl : l.length = n) (hr : RowAt w ao l) (h : b = true ↔ Ve.May l m) :
    Calls Tryz.prog 41 #[.slice ao n cap, .int .i64 m] w fun e w' => e = .returned (.bool b) ∧ Below w.heap.size w w' := by
  subst hl
  exact (vecMay_any ao cap l m w hr h).mono fun e w' ⟨he, hw⟩ => ⟨he, by rw [hw]; exact Below.refl _ _⟩

theorem under_n {ao bo : Option Addr} {ca cb : Nat} {a b : List Int} {n m : Nat} {w : World} {r : Bool} (hl : a.length = n) (hm : b.length = m) (ha : RowAt w ao a) (hb : RowAt w bo b) (h : r = true ↔ Ve.Under a b) :
    Calls Tryz.prog 47 #[.slice ao n ca, .slice bo m cb] w fun e w' => e = .returned (.bool r) ∧ Below w.heap.size w w' := by
  subst hl hm
  exact (under_any ao bo ca cb a b w ha hb h).mono fun e w' ⟨he, hw, _⟩ => ⟨he, hw⟩

end Go.Proofs.YtgkddimijmnpcaaGreatDoor

