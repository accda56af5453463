/-
  Two matrices of the call's own, apart from each other, and a row beside them: what stays when one of them learns, when a row is spoilt.
-/
import Derived.Test.YtdaakacjgkafcaaMat
import Derived.Test.YtdaakacjgkafcaaBase
namespace Go.Proofs.Ytdaakacjgkafcaa
open Go.RowKit
set_option linter.unusedVariables false

def MatTwo (w0 w : World) (F1 F2 : Nat → Prop) (P1 P2 : Nat) (rows1 rows2 : List (List Int)) (lo : Option Addr) (L : List Int) : Prop :=
  MatAt w F1 P1 rows1 ∧ MatAt w F2 P2 rows2 ∧ (∀ x, F1 x → ¬ F2 x ∧ w0.heap.size ≤ x) ∧ (∀ x, F2 x → w0.heap.size ≤ x) ∧ Below w0.heap.size w0 w ∧ RowAt w lo L ∧ ∀ b off, lo = some ⟨b, off, none⟩ → ¬ F1 b ∧ ¬ F2 b ∧ b < w.heap.size

theorem MatTwo.later {w0 w w' : World} {F1 F2 : Nat → Prop} {P1 P2 : Nat} {rows1 rows2 : List (List Int)} {lo : Option Addr} {L : List Int} (h : MatTwo w0 w F1 F2 P1 P2 rows1 rows2 lo L) (hb : Below w.heap.size w w') : MatTwo w0 w' F1 F2 P1 P2 rows1 rows2 lo L := by
  obtain ⟨h1, h2, h3, h4, h5, h6, h7⟩ := h
  refine ⟨h1.later hb, h2.later hb, h3, h4, thenB h5 hb, h6.later hb, fun b off e => ?_⟩
  obtain ⟨a1, a2, a3⟩ := h7 b off e
  exact ⟨a1, a2, Nat.lt_of_lt_of_le a3 hb.size⟩

theorem MatTwo.drew {w0 w : World} {F1 F2 : Nat → Prop} {P1 P2 : Nat} {rows1 rows2 : List (List Int)} {lo : Option Addr} {L : List Int} (h : MatTwo w0 w F1 F2 P1 P2 rows1 rows2 lo L) : MatTwo w0 w.drew F1 F2 P1 P2 rows1 rows2 lo L := h.later (Below.refl _ _).drew

theorem MatTwo.learn1 {w0 w w' : World} {F1 F2 F' : Nat → Prop} {P1 P2 : Nat} {rows1 rows2 rows' : List (List Int)} {lo : Option Addr} {L : List Int} (h : MatTwo w0 w F1 F2 P1 P2 rows1 rows2 lo L) (hk : Kept F1 w w') (hm : MatAt w' F' P1 rows') (hF : ∀ k, F' k → F1 k ∨ w.heap.size ≤ k) : MatTwo w0 w' F' F2 P1 P2 rows' rows2 lo L := by
  obtain ⟨h1, h2, h3, h4, h5, h6, h7⟩ := h
  have hs := h5.size
  refine ⟨hm, h2.kept hk fun k hk h => (h3 k h).1 hk, fun x hx => ?_, h4, h5.trans (hk.below hs fun k hk => (h3 k hk).2), h6.kept hk fun b off e => (h7 b off e).1, fun b off e => ?_⟩
  · rcases hF x hx with h | h
    · exact h3 x h
    · exact ⟨fun h' => by have := h2.lt h'; omega, by omega⟩
  · obtain ⟨a1, a2, a3⟩ := h7 b off e
    refine ⟨fun hx => ?_, a2, Nat.lt_of_lt_of_le a3 hk.size⟩
    rcases hF b hx with h | h
    · exact a1 h
    · omega

theorem MatTwo.learn2 {w0 w w' : World} {F1 F2 F' : Nat → Prop} {P1 P2 : Nat} {rows1 rows2 rows' : List (List Int)} {lo : Option Addr} {L : List Int} (h : MatTwo w0 w F1 F2 P1 P2 rows1 rows2 lo L) (hk : Kept F2 w w') (hm : MatAt w' F' P2 rows') (hF : ∀ k, F' k → F2 k ∨ w.heap.size ≤ k) : MatTwo w0 w' F1 F' P1 P2 rows1 rows' lo L := by
  obtain ⟨h1, h2, h3, h4, h5, h6, h7⟩ := h
  have hs := h5.size
  refine ⟨h1.kept hk fun k hk => (h3 k hk).1, hm, fun x hx => ⟨fun h' => ?_, (h3 x hx).2⟩, fun x hx => ?_, h5.trans (hk.below hs h4), h6.kept hk fun b off e => (h7 b off e).2.1, fun b off e => ?_⟩
  · rcases hF x h' with h | h
    · exact (h3 x hx).1 h
    · have := h1.lt hx; omega
  · rcases hF x hx with h | h
    · exact h4 x h
    · omega
  · obtain ⟨a1, a2, a3⟩ := h7 b off e
    refine ⟨a1, fun hx => ?_, Nat.lt_of_lt_of_le a3 hk.size⟩
    rcases hF b hx with h | h
    · exact a2 h
    · omega

theorem MatTwo.spoil {w0 w w' : World} {S F1 F2 : Nat → Prop} {P1 P2 : Nat} {rows1 rows2 : List (List Int)} {lo : Option Addr} {L : List Int} (h : MatTwo w0 w F1 F2 P1 P2 rows1 rows2 lo L) (hk : Kept S w w') (hS : ∀ x, S x → ¬ F1 x ∧ ¬ F2 x ∧ w0.heap.size ≤ x ∧ ∀ off, lo ≠ some ⟨x, off, none⟩) : MatTwo w0 w' F1 F2 P1 P2 rows1 rows2 lo L := by
  obtain ⟨h1, h2, h3, h4, h5, h6, h7⟩ := h
  have hs := h5.size
  refine ⟨h1.kept hk fun k hk h => (hS k h).1 hk, h2.kept hk fun k hk h => (hS k h).2.1 hk, h3, h4, h5.trans (hk.below hs fun k hk => (hS k hk).2.2.1), h6.kept hk fun b off e h => (hS b h).2.2.2 off e, fun b off e => ?_⟩
  obtain ⟨a1, a2, a3⟩ := h7 b off e
  exact ⟨a1, a2, Nat.lt_of_lt_of_le a3 hk.size⟩

theorem MatTwo.last {w0 w : World} {F1 F2 : Nat → Prop} {P1 P2 : Nat} {rows1 rows2 : List (List Int)} {lo lo' : Option Addr} {L L' : List Int} (h : MatTwo w0 w F1 F2 P1 P2 rows1 rows2 lo L) (hr : RowAt w lo' L') (hn : ∀ b off, lo' = some ⟨b, off, none⟩ → ¬ F1 b ∧ ¬ F2 b ∧ b < w.heap.size) : MatTwo w0 w F1 F2 P1 P2 rows1 rows2 lo' L' := by
  obtain ⟨h1, h2, h3, h4, h5, h6, h7⟩ := h
  exact ⟨h1, h2, h3, h4, h5, hr, hn⟩

/-- What is new lies in neither. -/
theorem MatTwo.fresh {w0 w : World} {F1 F2 : Nat → Prop} {P1 P2 : Nat} {rows1 rows2 : List (List Int)} {lo : Option Addr} {L : List Int} (h : MatTwo w0 w F1 F2 P1 P2 rows1 rows2 lo L) {x : Nat} (hx : w.heap.size ≤ x) : ¬ F1 x ∧ ¬ F2 x ∧ w0.heap.size ≤ x ∧ ∀ off, lo ≠ some ⟨x, off, none⟩ := by
  obtain ⟨h1, h2, h3, h4, h5, h6, h7⟩ := h
  have hs := h5.size
  refine ⟨fun h => by have := h1.lt h; omega, fun h => by have := h2.lt h; omega, by omega, fun off e => ?_⟩
  have := (h7 x off e).2.2
  omega

theorem MatTwo.below {w0 w : World} {F1 F2 : Nat → Prop} {P1 P2 : Nat} {rows1 rows2 : List (List Int)} {lo : Option Addr} {L : List Int} (h : MatTwo w0 w F1 F2 P1 P2 rows1 rows2 lo L) : Below w0.heap.size w0 w := h.2.2.2.2.1

end Go.Proofs.Ytdaakacjgkafcaa
