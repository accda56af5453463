/-
  slices.Insert at a row of elements of the call's own: flat rows.
-/
import Derived.Test.YtghlegidapmpmaaFind10
import Derived.Test.YtghlegidapmpmaaRowGen
import Derived.Lib.Overlaps
import Derived.Lib.AppendZerosOnto
namespace Go.Proofs.Ytghlegidapmpmaa
open Go.RowKit Go.Shelf
set_option linter.unusedVariables false
set_option linter.unusedSimpArgs false

theorem flatL_append (l m : List L5) : flatL (l ++ m) = flatL l ++ flatL m := by simp [flatL]
theorem flatL_take (l : List L5) (i : Nat) : flatL (l.take i) = (flatL l).take (i * 5) := by
  induction l generalizing i with
  | nil => simp [flatL]
  | cons a l ih =>
    cases i with
    | zero => simp [flatL]
    | succ i =>
      have := ih i
      have e : (i + 1) * 5 = i * 5 + 1 + 1 + 1 + 1 + 1 := by omega
      simp only [flatL, l5, List.flatMap_cons, List.take_succ_cons, e, List.cons_append, List.nil_append] at this ⊢
      rw [this]
theorem flatL_drop (l : List L5) (i : Nat) : flatL (l.drop i) = (flatL l).drop (i * 5) := by
  induction l generalizing i with
  | nil => simp [flatL]
  | cons a l ih =>
    cases i with
    | zero => simp [flatL]
    | succ i =>
      have := ih i
      have e : (i + 1) * 5 = i * 5 + 1 + 1 + 1 + 1 + 1 := by omega
      simp only [flatL, l5, List.flatMap_cons, List.drop_succ_cons, e, List.cons_append, List.nil_append] at this ⊢
      rw [this]
theorem putX_flat (l : List L5) (i : Nat) (x : L5) : flatL (putX l i x) = (flatL l).take (i * 5) ++ (l5 x ++ (flatL l).drop (i * 5)) := by
  have : putX l i x = l.take i ++ ([x] ++ l.drop i) := rfl
  rw [this, flatL_append, flatL_append, flatL_take, flatL_drop]
  simp [flatL]
theorem Try.sizeElem : (Try.prog.info? 38).map (·.size) = some 5 := by
  obtain ⟨i0, hi, _, hz1, _⟩ := info_parts Try.infoElem
  rw [hi]; simp [hz1]

end Go.Proofs.Ytghlegidapmpmaa
