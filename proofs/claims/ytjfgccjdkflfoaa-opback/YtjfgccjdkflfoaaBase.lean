/-
  Small laws that every layer uses: one call behind another, answers that are equal; a struct of two numbers, read; what cells hold behind a call that only makes memory.
-/
import Derived.Test.YtjfgccjdkflfoaaChecked
import Derived.WalkKit
import Derived.Below
import Derived.ProofKit
import Derived.ChangeSame
import Derived.WideShapes
namespace Go.Proofs.Ytjfgccjdkflfoaa
open Go.ChangeShapes Go.WideShapes Go.ChangeAt Go.RowKit
set_option linter.unusedVariables false

/-- One call behind another: nothing old has turned. -/
theorem thenB {w w1 w2 : World} (h : Below w.heap.size w w1) (h2 : Below w1.heap.size w1 w2) : Below w.heap.size w w2 := h.trans (h2.mono h.size)

theorem ret_bool {a b : Bool} (h : a = b) : Ending.returned (.bool a) = .returned (.bool b) := by rw [h]

/-- All old cells, all old marks read as before. -/
theorem bcell {W w1 : World} (hb : Below W.heap.size W w1) : (∀ b o, b < W.heap.size → w1.cell? ⟨b, o, none⟩ = W.cell? ⟨b, o, none⟩) ∧ (∀ b o, b < W.heap.size → w1.frozen? ⟨b, o, none⟩ = W.frozen? ⟨b, o, none⟩) :=
  ⟨fun b o h => hb.cell (p := ⟨b, o, none⟩) h, fun b o h => hb.frozen (p := ⟨b, o, none⟩) h⟩

/-- A struct of two numbers that comes as an argument. -/
theorem open_two {H : Type} {enc : TypeId × Value → H} {P : Program} {w : World} {b0 base : Nat} {spare : Nat → Bool} {held : Bool} {t : TypeId} {f0 f1 : Field} {v : Value} {d : DataW H} {ps : List MemPlace}
    (ht : P.underlying t = some (.struct #[f0, f1])) (ct : P.cellsOf t = 2) (o0 : f0.offset = 0) (o1 : f1.offset = 1) (c0 : P.cellsOf f0.type = 1) (c1 : P.cellsOf f1.type = 1)
    (u0 : P.underlying f0.type = some (.int .i64)) (u1 : P.underlying f1.type = some (.int .i64))
    (hval : Value.okWide P w .any b0 t v) (hd : DataW.Trod enc P w base spare held t v d ps) :
    ∃ x y : Int, v = .agg #[.int .i64 x, .int .i64 y] ∧ (Lit.int .i64 x).wf = true ∧ (Lit.int .i64 y).wf = true := by
  obtain ⟨cs, rfl, hcs⟩ := okWide_struct ht hval
  obtain ⟨fuel, hf⟩ := hd
  obtain ⟨y0, y1, m, _, _, g0, g1⟩ := trod_struct2 ht hf
  rw [ct] at hcs
  obtain ⟨l⟩ := cs
  match l, hcs with
  | [a, b], _ =>
    simp [Value.cells, o0, o1, c0, c1] at g0 g1
    obtain ⟨x, hx, _, wx⟩ := DataW.trod_int u0 g0
    obtain ⟨y, hy, _, wy⟩ := DataW.trod_int u1 g1
    simp only [List.cons.injEq, and_true] at hx hy
    subst hx hy
    exact ⟨x, y, rfl, wx, wy⟩

end Go.Proofs.Ytjfgccjdkflfoaa
