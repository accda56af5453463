/-
  The laws' own SameDots at two rows of the same dots, by contract.
-/
import Derived.Test.YtjfgccjdkflfoaaCeCopy
import Derived.Test.YtjfgccjdkflfoaaOrder9
import Derived.Deep.LoopGhost
import Derived.OwnWalk
namespace Go.Proofs.Ytjfgccjdkflfoaa
open Go.RowKit
set_option linter.unusedVariables false
set_option linter.unusedSimpArgs false

set_option maxHeartbeats 400000 in
set_option maxRecDepth 100000 in
/-- Two rows of the same dots. -/
theorem dsame_any (ao bo : Option Addr) (ca cb : Nat) (a : List D2) (w : World) (ha : FRow w ao (flatD a)) (hb : FRow w bo (flatD a)) (hla : a.length ≤ maxLen) :
    Calls Try.prog 32 #[.slice ao a.length ca, .slice bo a.length cb] w fun e w' => e = .returned (.bool true) ∧ Below w.heap.size w w' := by
  have HA : Hid (FRow w ao (flatD a)) := ha
  have HC : Hid (FRow w bo (flatD a)) := hb
  clear ha hb
  unfold maxLen at hla
  have hd0 : ((a.length : Int) != (a.length : Int)) = false := by simp
  go_enter Try.func32, Try.ntmps32
  go_wp2
  go_loopg [5] a.length (fun n iv wr => ∃ i : Nat, i + n = a.length ∧ iv = .int .i64 i ∧ Below w.heap.size w wr)
  case atStart => exact ⟨0, by omega, rfl, Below.refl _ _⟩
  case round =>
    obtain ⟨i, hin, rfl, hbel⟩ := hrel
    by_cases hi : i < a.length
    · obtain ⟨bk, off, rfl, hb, hc⟩ := HA.out (by rw [flatD_len]; omega)
      obtain ⟨bk2, off2, rfl, hb2, hc2⟩ := HC.out (by rw [flatD_len]; omega)
      obtain ⟨x, hx⟩ : ∃ x, a[i]? = some x := ⟨_, List.getElem?_eq_getElem hi⟩
      obtain ⟨g0, g1⟩ := flatD_at a i hx
      have hx1 := (hbel.cell (p := ⟨bk, off + i * 2, none⟩) (by exact hb)).trans (hc _ _ g0)
      have hx2 := (hbel.cell (p := ⟨bk, off + i * 2 + 1, none⟩) (by exact hb)).trans (hc _ _ g1)
      have hy1 := (hbel.cell (p := ⟨bk2, off2 + i * 2, none⟩) (by exact hb2)).trans (hc2 _ _ g0)
      have hy2 := (hbel.cell (p := ⟨bk2, off2 + i * 2 + 1, none⟩) (by exact hb2)).trans (hc2 _ _ g1)
      obtain ⟨x1, x2⟩ := x
      clear hc hc2 hx g0 g1
      go_wp2
      go_region
      all_goals go_wp2
      all_goals go_roundg (gk - 1)
      case measure => omega
      case rel => exact ⟨i + 1, by omega, by go_num, hbel.drew⟩
    · have hd : decide ((i : Int) < (a.length : Int)) = false := by simp; omega
      go_wp2
      go_ret
      exact ⟨rfl, hbel⟩

end Go.Proofs.Ytjfgccjdkflfoaa
