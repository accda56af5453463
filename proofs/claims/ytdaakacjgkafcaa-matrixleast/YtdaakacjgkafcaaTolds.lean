/-
  Rows of what nodes have (a number and a row of numbers each) that come as an argument.
-/
import Derived.Test.YtdaakacjgkafcaaIntRows
import Derived.Deep.SlicePairs
import Derived.SizedLaws
namespace Go.Proofs.Ytdaakacjgkafcaa
open Go.ChangeShapes Go.WideShapes Go.ChangeAt Go.RowKit
set_option linter.unusedVariables false

theorem weights_all {H : Type} {P : Program} {e : TypeId} : ∀ {l : List (DataW H)} {d : DataW H}, d ∈ l → ∀ n ∈ d.weights P e, n ∈ DataW.weightsAll P e l
  | [], d, h, n, hn => by simp at h
  | x :: r, d, h, n, hn => by
    simp only [DataW.weightsAll, List.mem_append]
    rcases List.mem_cons.1 h with rfl | h
    · exact Or.inl hn
    · exact Or.inr (weights_all h n hn)

/-- A row of numbers, one cell of what came in. -/
theorem ints_trod {H : Type} {enc : TypeId × Value → H} {w : World} {v : Value} {d : DataW H} {p : List MemPlace} {fuel : Nat}
    (hf : DataW.trod enc Try.prog w 0 (fun _ => true) true fuel 32 [v] = some (d, p)) : ∃ l ao cap, v = .slice ao l.length cap ∧ l.length ≤ maxLen ∧ RowAt w ao l ∧ ∀ K, (∀ n, n ∈ d.weights Try.prog 32 → n ≤ K) → l.length * 8 ≤ K := by
  have eb : Try.prog.bytesOf 3 = 8 := by kernel_rfl
  rcases Go.Deep.open_slice1 Try.underlying32 (by kernel_rfl) hf with ⟨hcs, _⟩ | ⟨x, ln, c, m, n, V, D, Pl, hcs, _, hl, hm, hmm, hdp, hcell⟩
  · simp only [List.cons.injEq, and_true] at hcs
    subst hcs
    exact ⟨[], none, 0, rfl, by simp, RowAt.nil _ _, fun K _ => by simp⟩
  · simp only [List.cons.injEq, and_true] at hcs
    subst hcs
    have hmc : m = c := by simpa using hmm
    have hV : ∀ i, i < m → ∃ z : Int, V i = .int .i64 z := fun i hi => by
      obtain ⟨z, hz, _, _⟩ := DataW.trod_int Try.underlying3 (hcell i hi).2
      simp only [List.cons.injEq, and_true] at hz
      exact ⟨z, hz⟩
    let Z : Nat → Int := fun i => match V i with | .int _ z => z | _ => 0
    refine ⟨(List.range ln).map Z, some x, c, by simp, by simp; omega, fun h0 => ?_, fun K hK => ?_⟩
    rotate_left
    · simp only [Prod.mk.injEq] at hdp
      have h1 := hK _ (by rw [hdp.1]; simp only [DataW.weights, Try.underlying32]; exact List.mem_cons_self)
      rw [eb] at h1
      simp only [List.length_map, List.length_range] at h1 ⊢
      omega
    simp only [List.length_map, List.length_range] at h0 ⊢
    obtain ⟨b, off, spot⟩ := x
    have hc := (hcell 0 (by omega)).1
    have hspot : spot = none := by simpa [Addr.add] using World.cell?_spot hc
    subst hspot
    have hb := World.block_lt_of_cell? w _ hc
    refine ⟨b, off, rfl, by simpa [Addr.add] using hb, fun i hi => ?_⟩
    have h1 := (hcell i (by omega)).1
    obtain ⟨z, hz⟩ := hV i (by omega)
    have e2 : ((List.range ln).map Z).getD i 0 = z := by
      simp [List.getD, hi, Z, hz]
    rw [e2, ← hz, ← h1]
    rcases i with _ | i
    · simp [Addr.add]
    · simp [Addr.add]

/-- Where n pairs lie: the number N i, the row V i. -/
def ToldAt (w : World) (b off i : Nat) (N : Int) (V : List Int) : Prop :=
  w.cell? ⟨b, off + i * 2, none⟩ = some (.int .i64 N) ∧ V.length * 8 ≤ 140737488351232 ∧ ∃ ao ca, w.cell? ⟨b, off + i * 2 + 1, none⟩ = some (.slice ao V.length ca) ∧ RowAt w ao V

/-- Pairs that come as an argument. -/
theorem isTolds_of {H : Type} {enc : TypeId × Value → H} {w : World} {base : Nat} {v : Value} {d : DataW H} {p : List MemPlace}
    (ok : Value.okWide Try.prog w .any base 22 v) (h : DataW.Trod enc Try.prog w 0 (fun _ => true) true 22 v d p) (hw : ∀ n, n ∈ d.weights Try.prog 22 → n ≤ reachBytes) :
    ∃ n ao cap, v = .slice ao n cap ∧ n ≤ maxLen ∧ (0 < n → ∃ b off, ao = some ⟨b, off, none⟩ ∧ b < w.heap.size ∧ ∀ i, i < n → ∃ N V, ToldAt w b off i N V) := by
  obtain ⟨a0, len, cap, rfl⟩ := okWide_slice Try.underlying22 ok
  obtain ⟨fuel, hf⟩ := h
  rcases Go.Deep.open_slice_pairs Try.underlying22 Try.underlying36 (by kernel_rfl) rfl rfl (by kernel_rfl) (by kernel_rfl) hf with ⟨hcs, _⟩ | ⟨x, ln, c, m, n, V0, V1, D0, D1, P0, P1, hcs, _, hl, hm, hmm, hdp, hcell⟩
  · simp [Value.cells] at hcs
    obtain ⟨rfl, rfl, rfl⟩ := hcs
    exact ⟨0, none, 0, rfl, by unfold maxLen; omega, fun h => by omega⟩
  · simp [Value.cells] at hcs
    obtain ⟨rfl, rfl, rfl⟩ := hcs
    have hmc : m = cap := by simpa using hmm
    refine ⟨len, some x, cap, rfl, by omega, fun h0 => ?_⟩
    obtain ⟨b, off, spot⟩ := x
    have hc := (hcell 0 (by omega)).1
    have hspot : spot = none := by simpa [Addr.add] using World.cell?_spot hc
    subst hspot
    have hb := World.block_lt_of_cell? w _ hc
    refine ⟨b, off, rfl, by simpa [Addr.add] using hb, fun i hi => ?_⟩
    obtain ⟨q0, q1, t0, t1⟩ := hcell i (by omega)
    obtain ⟨z, hz, _, _⟩ := DataW.trod_int Try.underlying3 t0
    simp only [List.cons.injEq, and_true] at hz
    obtain ⟨l, ao, ca, hv, _, hrow, hK⟩ := ints_trod t1
    refine ⟨z, l, ?_, hK 140737488351232 fun k hk => ?_, ao, ca, ?_, hrow⟩
    · rw [← hz, ← q0]
      rcases i with _ | i
      · simp [Addr.add]
      · simp [Addr.add]
    · have hk2 : k ∈ d.weights Try.prog 22 := by
        simp only [Prod.mk.injEq] at hdp
        rw [hdp.1]
        simp only [DataW.weights, Try.underlying22, List.mem_cons, List.mem_append]
        refine Or.inr (Or.inl (weights_all (d := .agg [D0 i, D1 i]) (List.mem_map.2 ⟨i, List.mem_range.2 hi, rfl⟩) k ?_))
        simp only [DataW.weights, Try.underlying36]
        exact DataW.weights_mem_each (j := 1) (t := 32) (d := D1 i) rfl rfl k hk
      have := hw k hk2
      unfold reachBytes at this
      omega
    · rw [← hv, ← q1]
      simp [Addr.add, Nat.add_assoc]

theorem ToldAt.later {w w' : World} {b off i : Nat} {N : Int} {V : List Int} (h : ToldAt w b off i N V) (hlt : b < w.heap.size) (hb : Below w.heap.size w w') : ToldAt w' b off i N V := by
  obtain ⟨h1, h2, ao, ca, h3, h4⟩ := h
  exact ⟨(hb.cell (by exact hlt)).trans h1, h2, ao, ca, (hb.cell (by exact hlt)).trans h3, h4.later hb⟩

end Go.Proofs.Ytdaakacjgkafcaa
