/-
  The laws' own SameCell and SameInts at two cells of the same data, by contracts.
-/
import Derived.Test.YtjfgccjdkflfoaaCeCopy
import Derived.Deep.LoopGhost
import Derived.OwnWalk
namespace Go.Proofs.Ytjfgccjdkflfoaa
open Go.RowKit
set_option linter.unusedVariables false
set_option linter.unusedSimpArgs false

set_option maxHeartbeats 400000 in
set_option maxRecDepth 100000 in
theorem sameInts_any (ao bo : Option Addr) (ca cb : Nat) (a : List Int) (w : World) (ha : FRow w ao (flatI a)) (hb : FRow w bo (flatI a)) (hla : a.length ≤ maxLen) :
    Calls Try.prog 31 #[.slice ao a.length ca, .slice bo a.length cb] w fun e w' => e = .returned (.bool true) ∧ Below w.heap.size w w' := by
  have HA : Hid (FRow w ao (flatI a)) := ha
  have HC : Hid (FRow w bo (flatI a)) := hb
  clear ha hb
  unfold maxLen at hla
  have hd0 : ((a.length : Int) != (a.length : Int)) = false := by simp
  go_enter Try.func31, Try.ntmps31
  go_wp2
  go_loopg [5] a.length (fun n iv wr => ∃ i : Nat, i + n = a.length ∧ iv = .int .i64 i ∧ Below w.heap.size w wr)
  case atStart => exact ⟨0, by omega, rfl, Below.refl _ _⟩
  case round =>
    obtain ⟨i, hin, rfl, hbel⟩ := hrel
    by_cases hi : i < a.length
    · obtain ⟨bk, off, rfl, hb, hc⟩ := HA.out (by rw [flatI_len]; omega)
      obtain ⟨bk2, off2, rfl, hb2, hc2⟩ := HC.out (by rw [flatI_len]; omega)
      obtain ⟨x, hx⟩ : ∃ x, a[i]? = some x := ⟨_, List.getElem?_eq_getElem hi⟩
      have hcx := (hbel.cell (p := ⟨bk, off + i, none⟩) (by exact hb)).trans (hc i _ (flatI_at a i hx))
      have hcy := (hbel.cell (p := ⟨bk2, off2 + i, none⟩) (by exact hb2)).trans (hc2 i _ (flatI_at a i hx))
      clear hc hc2 hx
      go_wp2
      go_region
      all_goals go_wp2
      all_goals go_roundg (gk - 1)
      case measure => omega
      case rel => exact ⟨i + 1, by omega, by go_num, hbel.drew⟩
    · have hd : decide ((i : Int) < (a.length : Int)) = false := by simp; omega
      go_wp2
      go_ret
      exact ⟨rfl, hbel⟩

/-- What the comparison keeps: both cells, in blocks h and h + 1. -/
def Same2 (w : World) (h : Nat) (c : Ce) (p q : Pl) (w1 : World) : Prop := Below h w w1 ∧ Has w1 h (ceL c p) ∧ Has w1 (h + 1) (ceL c q)

theorem same2_new (w : World) (c : Ce) (p q : Pl) (t : TypeId) : Same2 w w.heap.size c p q ((w.alloc (.cells (ceL c p).toArray t)).alloc (.cells (ceL c q).toArray t)) := by
  refine ⟨((Below.refl _ _).alloc (Nat.le_refl _) _).alloc (by simp) _, (has_new _ _ _).alloc _, ?_⟩
  have := has_new (w.alloc (.cells (ceL c p).toArray t)) (ceL c q) t
  simpa using this

theorem Same2.later {w w1 w2 : World} {h : Nat} {c : Ce} {p q : Pl} (H : Same2 w h c p q w1) (hb : Below w1.heap.size w1 w2) : Same2 w h c p q w2 :=
  ⟨H.1.trans (hb.mono (by have := H.2.1.1; omega)), H.2.1.later hb, H.2.2.later hb⟩

/-- No list is longer than memory. -/
def Lens (c : Ce) : Prop := c.ents.length ≤ 140737488355328 ∧ c.elems.length ≤ 140737488355328 ∧ c.seen.length ≤ 140737488355328
theorem Fit.lens {c : Ce} (h : Fit c) : Lens c := by
  obtain ⟨f1, f2, f3, _⟩ := h
  exact ⟨by omega, by omega, by omega⟩

end Go.Proofs.Ytjfgccjdkflfoaa
