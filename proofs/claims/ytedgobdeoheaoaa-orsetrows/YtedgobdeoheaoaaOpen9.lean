/-
  Dots and texts that come as arguments.
-/
import Derived.Test.YtedgobdeoheaoaaLend9
import Derived.Test.YtedgobdeoheaoaaCeOpen
namespace Go.Proofs.Ytedgobdeoheaoaa
open Go.ChangeShapes Go.WideShapes Go.ChangeAt Go.RowKit
set_option linter.unusedVariables false
set_option linter.unusedSimpArgs false

theorem flatS_flat : ∀ l : List S8, flatS l = l.flatMap (fun a => [encStr a])
  | [] => rfl
  | a :: l => by
    rw [List.flatMap_cons, ← flatS_flat l]
    rfl

section
variable {H : Type} {enc : TypeId × Value → H} {w : World}

theorem dec_dot (fuel : Nat) (cs : List Value) (x : DataW H × List MemPlace) (h : DataW.trod enc Try.prog w 0 (fun _ => true) true fuel 32 cs = some x) (hl : cs.length = 2) : ∃ a : D2, cs = d2 a ∧ ∀ k ∈ ([] : List Nat), k ∈ x.1.weights Try.prog 32 := by
  match cs, hl with
  | [a, b], _ =>
    obtain ⟨y, z, rfl, rfl, _, _⟩ := dec_two Try.underlying32 rfl rfl rfl rfl h
    exact ⟨(y, z), rfl, fun k hk => by simp at hk⟩

set_option maxRecDepth 100000 in
/-- A row of dots that comes as an argument. -/
theorem open_dots {base : Nat} {v : Value} {d : DataW H} {p : List MemPlace} (ok : Value.okWide Try.prog w .any base 33 v) (h : DataW.Trod enc Try.prog w 0 (fun _ => true) true 33 v d p) (hw : ∀ n, n ∈ d.weights Try.prog 33 → n ≤ reachBytes) :
    ∃ (l : List D2) (ao : Option Addr) (cap : Nat), v = .slice ao l.length cap ∧ FRow w ao (flatD l) ∧ l.length * 16 ≤ 140737488351232 := by
  obtain ⟨a0, len, cap, rfl⟩ := okWide_slice Try.underlying33 ok
  obtain ⟨fuel, hf⟩ := h
  obtain ⟨l, ao, cap2, e, hr, hk⟩ := rows_trod (0, 0) d2 2 16 (fun _ => rfl) (fun _ => []) Try.underlying33 (by kernel_rfl) (by decide) (by kernel_rfl) dec_dot hf
  refine ⟨l, ao, cap2, e, hr, ?_⟩
  exact (hk 140737488351232 fun n hn => by have := hw n hn; unfold reachBytes at this; omega).1

theorem dec_str (fuel : Nat) (cs : List Value) (x : DataW H × List MemPlace) (h : DataW.trod enc Try.prog w 0 (fun _ => true) true fuel 9 cs = some x) (_ : cs.length = 1) : ∃ a : S8, cs = [encStr a] ∧ ∀ k ∈ [a.length], k ∈ x.1.weights Try.prog 9 := by
  obtain ⟨s, hs, hx, _⟩ := DataW.trod_string Try.underlying9 h
  refine ⟨s.data.toList, hs, fun k hk => ?_⟩
  simp only [List.mem_singleton] at hk
  subst hk
  rw [hx]
  simp [DataW.weights]

set_option maxRecDepth 100000 in
/-- A row of texts that comes as an argument. -/
theorem open_texts {base : Nat} {v : Value} {d : DataW H} {p : List MemPlace} (ok : Value.okWide Try.prog w .any base 43 v) (h : DataW.Trod enc Try.prog w 0 (fun _ => true) true 43 v d p) (hw : ∀ n, n ∈ d.weights Try.prog 43 → n ≤ reachBytes) :
    ∃ (l : List S8) (ao : Option Addr) (cap : Nat), v = .slice ao l.length cap ∧ FRow w ao (flatS l) ∧ l.length * 16 ≤ 140737488351232 ∧ ∀ x ∈ l, x.length ≤ 140737488351232 := by
  obtain ⟨a0, len, cap, rfl⟩ := okWide_slice Try.underlying43 ok
  obtain ⟨fuel, hf⟩ := h
  obtain ⟨l, ao, cap2, e, hr, hk⟩ := rows_trod ([] : S8) (fun a => [encStr a]) 1 16 (fun _ => rfl) (fun a => [a.length]) Try.underlying43 (by kernel_rfl) (by decide) (by kernel_rfl) dec_str hf
  have hK := hk 140737488351232 fun n hn => by have := hw n hn; unfold reachBytes at this; omega
  refine ⟨l, ao, cap2, e, ?_, hK.1, fun x hx => ?_⟩
  · rw [flatS_flat]
    exact hr
  · obtain ⟨i, hi⟩ := List.getElem?_of_mem hx
    exact hK.2 i x hi _ (List.mem_singleton.2 rfl)

end

end Go.Proofs.Ytedgobdeoheaoaa
