/-
  A row of numbers that comes as an argument, as cells.
-/
import Derived.Test.YtghlegidapmpmaaCeOpen
import Derived.WideShapes
namespace Go.Proofs.Ytghlegidapmpmaa
open Go.ChangeShapes Go.WideShapes Go.ChangeAt Go.RowKit
set_option linter.unusedVariables false
set_option linter.unusedSimpArgs false

section
variable {H : Type} {enc : TypeId × Value → H} {w : World}
set_option maxRecDepth 100000 in
/-- A row of numbers that comes as an argument. -/
theorem open_intsR {base : Nat} {v : Value} {d : DataW H} {p : List MemPlace} (ok : Value.okWide Try.prog w .any base 22 v) (h : DataW.Trod enc Try.prog w 0 (fun _ => true) true 22 v d p) (hw : ∀ n, n ∈ d.weights Try.prog 22 → n ≤ reachBytes) :
    ∃ (l : List Int) (ao : Option Addr) (cap : Nat), v = .slice ao l.length cap ∧ FRow w ao (flatI l) ∧ l.length * 8 ≤ 140737488351232 := by
  obtain ⟨a0, len, cap, rfl⟩ := okWide_slice Try.underlying22 ok
  obtain ⟨fuel, hf⟩ := h
  obtain ⟨l, ao, cap2, e, hr, hk⟩ := rows_trod (0 : Int) (fun a => [.int .i64 a]) 1 8 (fun _ => rfl) (fun _ => []) Try.underlying22 (by kernel_rfl) (by decide) (by kernel_rfl) dec_int hf
  refine ⟨l, ao, cap2, e, by rw [flatI_flat]; exact hr, ?_⟩
  exact (hk 140737488351232 fun n hn => by have := hw n hn; unfold reachBytes at this; omega).1
end
end Go.Proofs.Ytghlegidapmpmaa
