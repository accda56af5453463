/-
  Package frame's Put, by a contract.
-/
import Derived.Test.YtcelpbjlmpaijaaFrameText
import Derived.Test.YtcelpbjlmpaijaaVarintPut
namespace Go.Proofs.Ytcelpbjlmpaijaa
open Go.RowKit
set_option linter.unusedVariables false

set_option maxHeartbeats 400000 in
set_option maxRecDepth 100000 in
theorem framePut_any (s : ByteArray) (w : World) (hs : s.size ≤ maxLen) {l : List UInt8} {n : Nat} (hp : Fr.put s.data.toList = (l, n)) :
    Calls Try.prog 7 #[.string s] w fun e w' => e = .returned (.tuple #[.string ⟨l.toArray⟩, .int .i64 n]) ∧ Below w.heap.size w w' := by
  unfold Fr.put at hp
  rw [size_list] at hp
  have T := fun w => sumText_any s w hs
  have h4 : (Fr.four (Fr.sum s.data.toList)).length ≤ 4 := Nat.le_refl _
  generalize Fr.four (Fr.sum s.data.toList) = q at *
  unfold maxLen at hs
  by_cases h : 32768 < s.size
  · rw [if_pos h] at hp
    simp only [Prod.mk.injEq] at hp
    obtain ⟨rfl, rfl⟩ := hp
    go_enter Try.func7, Try.ntmps7
    go_wp2
    go_ret2
    exact ⟨rfl, Below.refl _ _⟩
  · rw [if_neg h] at hp
    simp only [Prod.mk.injEq] at hp
    obtain ⟨rfl, rfl⟩ := hp
    have hl9 := Vi.put_length_le s.size
    go_enter Try.func7, Try.ntmps7
    go_wp2_with (first
      | (go_at_call 15; refine (put_nat s.size _ (by omega)).mono ?_; rintro e w1 ⟨rfl, hb⟩)
      | (go_at_call 16; refine (T _).mono ?_; rintro e w2 ⟨rfl, hb2⟩))
    go_ret2
    exact ⟨ret_si (join3 _ _ _) rfl, thenB hb hb2⟩

end Go.Proofs.Ytcelpbjlmpaijaa
