/-
  The document's own Sum (the reference package), by a contract: the same plain function as frame's Sum.
-/
import Derived.Test.YtcelpbjlmpaijaaFrameSum
namespace Go.Proofs.Ytcelpbjlmpaijaa
open Go.RowKit
set_option linter.unusedVariables false

theorem shl16_or (y x : Nat) (hy : y < 65536) (hx : x < 65536) : bits .or .i64 ((y : Int) * 65536) (x : Int) = ((y * 65536 + x : Nat) : Int) := by
  have h := Vi.i64_or_join y x 16 (by omega) (by omega)
  have e : (y : Int) * 65536 = ((2 ^ 16 * y : Nat) : Int) := by omega
  rw [e, h]
  omega

set_option maxHeartbeats 400000 in
set_option maxRecDepth 100000 in
theorem refSum_any (s : ByteArray) (w : World) (hs : s.size ≤ maxLen) :
    Calls Try.prog 13 #[.string s] w fun e w' => e = .returned (.int .i64 (Fr.sum s.data.toList)) ∧ w' = w := by
  unfold maxLen at hs
  obtain ⟨r, hr⟩ : ∃ r, r = Fr.sum s.data.toList := ⟨_, rfl⟩
  rw [← hr]
  obtain ⟨g, hg⟩ : ∃ g, g = Fr.ab s.data.toList := ⟨_, rfl⟩
  have R : Hid (r = g.2 * 65536 + g.1) := by rw [hr, hg]; rfl
  clear hr
  have G : Hid (g = List.foldl Fr.step (1, 0) (s.data.toList.drop 0)) := by rw [hg]; rfl
  clear hg
  go_enter Try.func13, Try.ntmps13
  go_wp2
  go_loopg [3, 4, 5] (s.size + 1) (fun n a b i wr => ∃ k x y : Nat, k + n = s.size + 1 ∧ k ≤ s.size ∧ x < 65521 ∧ y < 65521 ∧ i = .int .i64 k ∧ a = .int .i64 x ∧ b = .int .i64 y ∧ wr = w ∧ g = List.foldl Fr.step (x, y) (s.data.toList.drop k))
  case atStart => exact ⟨0, 1, 0, by omega, by omega, by omega, by omega, rfl, rfl, rfl, rfl, G.out⟩
  case round =>
    obtain ⟨k, x, y, hn, hk, hx, hy, rfl, rfl, rfl, rfl, hg⟩ := hrel
    have HN : Hid (k + gk = s.size + 1) := hn
    have HG : Hid (g = List.foldl Fr.step (x, y) (s.data.toList.drop k)) := hg
    clear hn hg
    by_cases hl : k < s.size
    · have hb256 : (s[k].toNat : Int) < 256 := by have := s[k].toNat_lt; omega
      go_wp2
      go_roundg (gk - 1)
      case measure => have := HN.out; omega
      case rel =>
        have hn := HN.out
        have e := HG.out
        rw [Fr.fold_step s k x y hl] at e
        exact ⟨k + 1, _, _, by omega, by omega, Nat.mod_lt _ (by decide), Nat.mod_lt _ (by decide), by go_num, by go_num, by go_num, rfl, e⟩
    · have e := HG.out
      rw [Fr.fold_end s k x y hl] at e
      have F : Hid (r = y * 65536 + x) := by
        have := R.out; rw [e] at this; exact this
      clear e
      go_wp2
      go_ret
      rw [F.out]
      exact ⟨congrArg (fun z => Ending.returned (.int .i64 z)) (shl16_or y x (by omega) (by omega)), rfl⟩

end Go.Proofs.Ytcelpbjlmpaijaa
