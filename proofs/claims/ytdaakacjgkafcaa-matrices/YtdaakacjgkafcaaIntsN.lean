/-
  The laws' own words for rows of numbers, the lengths as letters.
-/
import Derived.Test.YtdaakacjgkafcaaInts2
import Derived.Test.YtdaakacjgkafcaaRefVec
import Derived.Test.YtdaakacjgkafcaaAwake4
namespace Go.Proofs.Ytdaakacjgkafcaa
open Go.RowKit
set_option linter.unusedVariables false

theorem same_n {ao bo : Option Addr} {ca cb n m : Nat} {a b : List Int} {w : World} (hl : a.length = n) (hm : b.length = m) (ha : RowAt w ao a) (hb : RowAt w bo b) (hla : a.length ≤ maxLen) {r : Bool} (h : r = true ↔ a = b) :
    Calls Try.prog 16 #[.slice ao n ca, .slice bo m cb] w fun e w' => e = .returned (.bool r) ∧ Below w.heap.size w w' := by
  subst hl hm
  exact same_b ao bo ca cb a b w ha hb hla h

theorem refUnder_n {ao bo : Option Addr} {ca cb n m : Nat} {a b : List Int} {w : World} (hl : a.length = n) (hm : b.length = m) (ha : RowAt w ao a) (hb : RowAt w bo b) (hla : a.length ≤ maxLen) (hlb : b.length ≤ maxLen) {r : Bool} (h : r = true ↔ Ve.Under a b) :
    Calls Try.prog 18 #[.slice ao n ca, .slice bo m cb] w fun e w' => e = .returned (.bool r) ∧ Below w.heap.size w w' := by
  subst hl hm
  exact (refUnder_any ao bo ca cb a b w ha hb hla hlb h).mono fun e w' ⟨he, hw, _⟩ => ⟨he, hw⟩

theorem copy_n {ao : Option Addr} {ca n : Nat} {a : List Int} {w : World} (hl : a.length = n) (ha : RowAt w ao a) (hla : a.length * 8 ≤ 140737488351232) :
    Calls Try.prog 19 #[.slice ao n ca] w fun e w' => ∃ g c, e = .returned (.slice (some ⟨g, 0, none⟩) n c) ∧ OwnAt w.heap.size w' (some ⟨g, 0, none⟩) a ∧ w.heap.size ≤ g ∧ g < w'.heap.size ∧ Below w.heap.size w w' := by
  subst hl
  refine (copy_any ao ca a w ha hla).mono ?_
  rintro e w' ⟨g, c, rfl, hown, hb⟩
  have hlt := hown.lt g rfl
  obtain ⟨ao2, cap2, e2, hO⟩ := own_at hown
  simp only [Value.slice.injEq] at e2
  obtain ⟨rfl, _, rfl⟩ := e2
  exact ⟨g, c, rfl, hO, hlt.1, hlt.2, hb⟩

theorem spoil_n {B : Nat} {ao : Option Addr} {ca n : Nat} {a : List Int} {w : World} (hl : a.length = n) (ha : OwnAt B w ao a) (hla : a.length ≤ maxLen) :
    Calls Try.prog 15 #[.slice ao n ca] w fun e w' => e = .returned (.tuple #[]) ∧ Kept (fun k => 0 < a.length ∧ ∃ off, ao = some ⟨k, off, none⟩) w w' := by
  subst hl
  exact spoil_one B ao ca a w ha hla

end Go.Proofs.Ytdaakacjgkafcaa
