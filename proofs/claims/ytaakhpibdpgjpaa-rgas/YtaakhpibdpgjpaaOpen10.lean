/-
  Elements that come as arguments.
-/
import Derived.Test.YtaakhpibdpgjpaaCeOpen
namespace Go.Proofs.Ytaakhpibdpgjpaa
open Go.ChangeShapes Go.WideShapes Go.ChangeAt Go.RowKit
set_option linter.unusedVariables false
set_option linter.unusedSimpArgs false

section
variable {H : Type} {enc : TypeId × Value → H} {w : World}

set_option maxRecDepth 100000 in
/-- An element that comes as an argument. -/
theorem open_elem {base : Nat} {v : Value} {d : DataW H} {p : List MemPlace} (ok : Value.okWide Try.prog w .any base 34 v) (h : DataW.Trod enc Try.prog w 0 (fun _ => true) true 34 v d p) (hw : ∀ n, n ∈ d.weights Try.prog 34 → n ≤ reachBytes) :
    ∃ e : L5, v = .agg #[.int .i64 e.node, .int .i64 e.seq, .int .i64 e.time, .string e.val, .bool e.gone] ∧ e.val.size ≤ 140737488351232 := by
  have c0 : Try.prog.cellsOf 34 = 5 := by kernel_rfl
  obtain ⟨cs, rfl, hcs⟩ := okWide_struct Try.underlying34 ok
  rw [c0] at hcs
  obtain ⟨fuel, hf⟩ := h
  obtain ⟨l⟩ := cs
  have hc : (Value.agg ⟨l⟩).cells.toList = l := rfl
  have hf' : DataW.trod enc Try.prog w 0 (fun _ => true) true fuel 34 l = some (d, p) := hf
  obtain ⟨e, rfl, hk⟩ := dec_elem fuel l (d, p) hf' (by simpa using hcs)
  refine ⟨e, rfl, ?_⟩
  have := hw _ (hk _ (List.mem_singleton.2 rfl))
  unfold reachBytes at this
  omega

end

end Go.Proofs.Ytaakhpibdpgjpaa
