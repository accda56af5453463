/-
  Rows of numbers: where they lie, how they stay, those that a call itself made; a row that comes as an argument.
-/
import Derived.Test.YtgkddimijmnpcaaGreatDoorZPack1
import Derived.Deep.Slices
import Derived.WalkKit
import Derived.Laws.OwnMore
namespace Go.Proofs.YtgkddimijmnpcaaGreatDoor
open Go.ChangeShapes Go.WideShapes Go.ChangeAt Go.RowKit
set_option linter.unusedVariables false

theorem Tryz.infoInt : (Tryz.prog.info? 3).map (fun i => (i.zero, i.size, i.bytes)) = some (some (.int .i64 0), 1, 8) := by kernel_rfl

/-- The numbers l lie where ao points to. -/
def RowAt (w : World) (ao : Option Addr) (l : List Int) : Prop :=
  0 < l.length → ∃ b off, ao = some ⟨b, off, none⟩ ∧ b < w.heap.size ∧ ∀ i, i < l.length → w.cell? ⟨b, off + i, none⟩ = some (.int .i64 (l.getD i 0))

/-- They lie in memory that was made since B, and may be written. -/
def OwnAt (B : Nat) (w : World) (ao : Option Addr) (l : List Int) : Prop :=
  0 < l.length → ∃ b off, ao = some ⟨b, off, none⟩ ∧ B ≤ b ∧ b < w.heap.size ∧ ∀ i, i < l.length → w.cell? ⟨b, off + i, none⟩ = some (.int .i64 (l.getD i 0)) ∧ w.frozen? ⟨b, off + i, none⟩ = false

theorem OwnAt.row {B : Nat} {w : World} {ao : Option Addr} {l : List Int} (h : OwnAt B w ao l) : RowAt w ao l := fun h0 => by
  obtain ⟨b, off, h1, _, h2, h3⟩ := h h0
  exact ⟨b, off, h1, h2, fun i hi => (h3 i hi).1⟩

theorem OwnAt.mono {B B' : Nat} {w : World} {ao : Option Addr} {l : List Int} (h : OwnAt B w ao l) (hB : B' ≤ B) : OwnAt B' w ao l := fun h0 => by
  obtain ⟨b, off, h1, hb, h2, h3⟩ := h h0
  exact ⟨b, off, h1, Nat.le_trans hB hb, h2, h3⟩

theorem RowAt.later {w w' : World} {ao : Option Addr} {l : List Int} (h : RowAt w ao l) (hb : Below w.heap.size w w') : RowAt w' ao l := fun h0 => by
  obtain ⟨b, off, h1, h2, h3⟩ := h h0
  exact ⟨b, off, h1, Nat.lt_of_lt_of_le h2 hb.size, fun i hi => (hb.cell (by exact h2)).trans (h3 i hi)⟩

theorem OwnAt.later {B : Nat} {w w' : World} {ao : Option Addr} {l : List Int} (h : OwnAt B w ao l) (hb : Below w.heap.size w w') : OwnAt B w' ao l := fun h0 => by
  obtain ⟨b, off, h1, h4, h2, h3⟩ := h h0
  exact ⟨b, off, h1, h4, Nat.lt_of_lt_of_le h2 hb.size, fun i hi => ⟨(hb.cell (by exact h2)).trans (h3 i hi).1, (hb.frozen (by exact h2)).trans (h3 i hi).2⟩⟩

theorem RowAt.nil (w : World) (ao : Option Addr) : RowAt w ao [] := fun h => by simp at h

theorem OwnAt.nil (B : Nat) (w : World) (ao : Option Addr) : OwnAt B w ao [] := fun h => by simp at h

theorem cells_at (l : List Int) (i : Nat) (h : i < l.length) : (l.map (Value.int .i64))[i]? = some (.int .i64 (l.getD i 0)) := by
  simp [List.getElem?_eq_getElem h, List.getD]

/-- A row of the call's own, as its value. -/
theorem own_at {B : Nat} {w : World} {v : Value} {l : List Int} (h : w.ownsRow B 3 1 v l.length (l.map (.int .i64))) : ∃ ao cap, v = .slice ao l.length cap ∧ OwnAt B w ao l := by
  rcases h.2 with ⟨rfl, h0⟩ | ⟨g, cap, cur, rfl, hb, hh, hn, hm, hcs, htake⟩
  · refine ⟨none, 0, by rw [h0], fun h => by omega⟩
  · refine ⟨_, _, rfl, fun h0 => ⟨g, 0, rfl, hb, ?_, fun i hi => ?_⟩⟩
    · exact (Array.getElem?_eq_some_iff.1 hh).1
    · rw [Nat.zero_add]
      exact ⟨(h.cellAt i (by omega)).trans (cells_at l i hi), h.frozenAt i⟩

set_option maxRecDepth 100000 in
/-- A row that comes as an argument. -/
theorem isInts_of {H : Type} {enc : TypeId × Value → H} {w : World} {base : Nat} {v : Value} {d : DataW H} {p : List MemPlace}
    (ok : Value.okWide Tryz.prog w .any base 28 v) (h : DataW.Trod enc Tryz.prog w 0 (fun _ => true) true 28 v d p) : ∃ l ao cap, v = .slice ao l.length cap ∧ l.length ≤ maxLen ∧ RowAt w ao l ∧ ∀ K, (∀ es sp, d = .slice es sp → (es.length + sp.length) * 8 ≤ K) → l.length * 8 ≤ K := by
  obtain ⟨a0, len, cap, rfl⟩ := okWide_slice Tryz.underlying28 ok
  obtain ⟨fuel, hf⟩ := h
  rcases Go.Deep.open_slice1 Tryz.underlying28 (by kernel_rfl) hf with ⟨hcs, _⟩ | ⟨x, ln, c, m, n, V, D, Pl, hcs, _, hl, hm, hmm, hdp, hcell⟩
  · simp [Value.cells] at hcs
    obtain ⟨rfl, rfl, rfl⟩ := hcs
    exact ⟨[], none, 0, rfl, by simp, RowAt.nil _ _, fun K _ => by simp⟩
  · simp [Value.cells] at hcs
    obtain ⟨rfl, rfl, rfl⟩ := hcs
    have hmc : m = cap := by simpa using hmm
    have hV : ∀ i, i < m → ∃ z : Int, V i = .int .i64 z := fun i hi => by
      obtain ⟨z, hz, _, _⟩ := DataW.trod_int Tryz.underlying3 (hcell i hi).2
      simp only [List.cons.injEq, and_true] at hz
      exact ⟨z, hz⟩
    let Z : Nat → Int := fun i => match V i with | .int _ z => z | _ => 0
    refine ⟨(List.range len).map Z, some x, cap, by simp, by simp; omega, fun h0 => ?_, fun K hK => ?_⟩
    rotate_left
    · simp only [Prod.mk.injEq] at hdp
      have := hK _ _ hdp.1
      simp only [List.length_map, List.length_range] at this ⊢
      omega
    simp only [List.length_map, List.length_range] at h0 ⊢
    obtain ⟨b, off, spot⟩ := x
    have hc := (hcell 0 (by omega)).1
    have hspot : spot = none := by simpa [Addr.add] using World.cell?_spot hc
    subst hspot
    have hb := World.block_lt_of_cell? w _ hc
    refine ⟨b, off, rfl, by simpa [Addr.add] using hb, fun i hi => ?_⟩
    have h1 := (hcell i (by omega)).1
    obtain ⟨z, hz⟩ := hV i (by omega)
    have e2 : ((List.range len).map Z).getD i 0 = z := by
      simp [List.getD, hi, Z, hz]
    rw [e2, ← hz, ← h1]
    rcases i with _ | i
    · simp [Addr.add]
    · simp [Addr.add]

end Go.Proofs.YtgkddimijmnpcaaGreatDoor

