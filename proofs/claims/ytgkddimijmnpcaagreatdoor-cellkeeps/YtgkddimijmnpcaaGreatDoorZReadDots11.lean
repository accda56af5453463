/-
  Package op's reader: a row of dots; unfold; by contracts.
-/
import Derived.Test.YtgkddimijmnpcaaGreatDoorZRead11
namespace Go.Proofs.YtgkddimijmnpcaaGreatDoor
open Go.RowKit
set_option linter.unusedVariables false
set_option linter.unusedSimpArgs false

theorem rdr_under {k B : Nat} {s : ByteArray} {z : Option Nat} {w w' : World} (h : Rdr k s z w) (hk : k < B) (hb : Below B w w') : Rdr k s z w' := by
  cases z with
  | none => obtain ⟨a, h, ha⟩ := h; exact ⟨a, h.under hk hb, ha⟩
  | some c => exact ⟨h.1.under hk hb, h.2⟩
theorem ko_above {k B : Nat} {w w1 w2 : World} (h : KO k w w1) (hB : w.heap.size ≤ B) (hk : k < B) (hb : Below B w1 w2) : KO k w w2 :=
  ⟨h.1.trans (hb.mono (Nat.zero_le _)), fun j hj hS => (hb.block j (by omega)).trans (h.2 j hj hS)⟩

theorem rdN_bound {s : List UInt8} {z : Option Nat} : 0 ≤ (rdN s z).1 ∧ (rdN s z).1 < 9223372036854775808 := by
  cases z with
  | none => exact ⟨Int.le_refl _, by show (0 : Int) < _; omega⟩
  | some a =>
    unfold rdN
    simp only
    by_cases h : (Vi.getI s a).2.2 = 0
    · rw [if_pos h]
      have hg : Vi.getI s a = ((Vi.getI s a).1, (Vi.getI s a).2.1, 0) := by rw [← h]
      have := (Vi.getI_ok hg).2.2.1
      simp only
      omega
    · rw [if_neg h]
      simp only
      omega
theorem rdM_len (s : List UInt8) : ∀ (n : Nat) (z : Option Nat), (rdM s n z).1.length = n
  | 0, _ => rfl
  | n + 1, z => by simp [rdM, rdM_len s n z]
theorem rdL_len (s : List UInt8) : ∀ (n : Nat) (z : Option Nat), (rdL s n z).1.length = n
  | 0, _ => rfl
  | n + 1, z => by simp [rdL, rdL_len s n z]

end Go.Proofs.YtgkddimijmnpcaaGreatDoor

