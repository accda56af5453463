/-
  Rows of texts; the laws' own SameTexts at two that are the same.
-/
import Derived.Test.YtghlegidapmpmaaOnTo
import Derived.Deep.LoopGhost
import Derived.OwnWalk
namespace Go.Proofs.Ytghlegidapmpmaa
open Go.RowKit
set_option linter.unusedVariables false
set_option linter.unusedSimpArgs false

def flatT (l : List ByteArray) : List Value := l.map .string
theorem flatT_len (l : List ByteArray) : (flatT l).length = l.length * 1 := by simp [flatT]
theorem flatT_append (l m : List ByteArray) : flatT (l ++ m) = flatT l ++ flatT m := by simp [flatT]
theorem flatT_at {l : List ByteArray} {i : Nat} {x : ByteArray} (h : l[i]? = some x) : (flatT l)[i]? = some (.string x) := by simp [flatT, h]
theorem oneT {l : List ByteArray} {u : Value} (h : u ∈ flatT l) : u.oneCell' = true := by
  simp only [flatT, List.mem_map] at h
  obtain ⟨p, _, rfl⟩ := h; rfl
theorem Try.infoText : (Try.prog.info? 9).map (fun i => (i.zero, i.size, i.bytes)) = some (some (.string ByteArray.empty), 1, 16) := by kernel_rfl

set_option maxHeartbeats 400000 in
set_option maxRecDepth 100000 in
/-- Two rows of the same texts. -/
theorem tsameT_any (ao bo : Option Addr) (ca cb : Nat) (a : List ByteArray) (w : World) (ha : FRow w ao (flatT a)) (hb : FRow w bo (flatT a)) (hla : a.length ≤ maxLen) :
    Calls Try.prog 12 #[.slice ao a.length ca, .slice bo a.length cb] w fun e w' => e = .returned (.bool true) ∧ Below w.heap.size w w' := by
  have HA : Hid (FRow w ao (flatT a)) := ha
  have HC : Hid (FRow w bo (flatT a)) := hb
  clear ha hb
  unfold maxLen at hla
  have hd0 : ((a.length : Int) != (a.length : Int)) = false := by simp
  go_enter Try.func12, Try.ntmps12
  go_wp2
  go_loopg [5] a.length (fun n iv wr => ∃ i : Nat, i + n = a.length ∧ iv = .int .i64 i ∧ Below w.heap.size w wr)
  case atStart => exact ⟨0, by omega, rfl, Below.refl _ _⟩
  case round =>
    obtain ⟨i, hin, rfl, hbel⟩ := hrel
    by_cases hi : i < a.length
    · obtain ⟨bk, off, rfl, hb, hc⟩ := HA.out (by rw [flatT_len]; omega)
      obtain ⟨bk2, off2, rfl, hb2, hc2⟩ := HC.out (by rw [flatT_len]; omega)
      obtain ⟨x, hx⟩ : ∃ x, a[i]? = some x := ⟨_, List.getElem?_eq_getElem hi⟩
      have hx1 := (hbel.cell (p := ⟨bk, off + i, none⟩) (by exact hb)).trans (hc _ _ (flatT_at hx))
      have hy1 := (hbel.cell (p := ⟨bk2, off2 + i, none⟩) (by exact hb2)).trans (hc2 _ _ (flatT_at hx))
      clear hc hc2 hx
      go_wp2
      go_region
      all_goals go_wp2
      all_goals go_roundg (gk - 1)
      case measure => omega
      case rel => exact ⟨i + 1, by omega, by go_num, hbel.drew⟩
    · have hd : decide ((i : Int) < (a.length : Int)) = false := by simp; omega
      go_wp2
      go_ret
      exact ⟨rfl, hbel⟩

end Go.Proofs.Ytghlegidapmpmaa
