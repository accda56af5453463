/-
  Package vec, by contracts: Has; the greater and the lesser (Max, Min, made and the two function literals).
-/
import Derived.Test.YtdaakacjgkafcaaVec
namespace Go.Proofs.Ytdaakacjgkafcaa
open Go.RowKit
set_option linter.unusedVariables false

theorem row_cell {w : World} {ao : Option Addr} {l : List Int} (h : RowAt w ao l) {i : Nat} (hi : i < l.length) : ∃ b off, ao = some ⟨b, off, none⟩ ∧ w.cell? ⟨b, off + i, none⟩ = some (.int .i64 (l.getD i 0)) := by
  obtain ⟨b, off, h1, _, h3⟩ := h (by omega)
  exact ⟨b, off, h1, h3 i hi⟩

end Go.Proofs.Ytdaakacjgkafcaa
