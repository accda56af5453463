/-
  Package frame's Sum, by a contract: what it answers for every text.
-/
import Derived.Test.YtcelpbjlmpaijaaChecked
import Derived.Test.YtcelpbjlmpaijaaFr
import Derived.Test.YtcelpbjlmpaijaaStrs
import Derived.WalkKit
import Derived.WalkSpells
import Derived.WalkLawsBesides
import Derived.Deep.LoopGhost
namespace Go.Proofs.Ytcelpbjlmpaijaa
open Go.RowKit
set_option linter.unusedVariables false

set_option maxHeartbeats 400000 in
set_option maxRecDepth 100000 in
theorem sum_any (s : ByteArray) (w : World) (hs : s.size ≤ maxLen) :
    Calls Try.prog 12 #[.string s] w fun e w' => e = .returned (.int .i64 (Fr.sum s.data.toList)) ∧ w' = w := by
  unfold maxLen at hs
  obtain ⟨r, hr⟩ : ∃ r, r = Fr.sum s.data.toList := ⟨_, rfl⟩
  rw [← hr]
  obtain ⟨g, hg⟩ : ∃ g, g = Fr.ab s.data.toList := ⟨_, rfl⟩
  have R : Hid (r = g.2 * 65536 + g.1) := by rw [hr, hg]; rfl
  clear hr
  have G : Hid (g = List.foldl Fr.step (1, 0) (s.data.toList.drop 0)) := by rw [hg]; rfl
  clear hg
  go_enter Try.func12, Try.ntmps12
  go_wp2
  go_loopg [3, 4, 8] (s.size + 1) (fun n a b i wr => ∃ k x y : Nat, k + n = s.size + 1 ∧ k ≤ s.size ∧ x < 65521 ∧ y < 65521 ∧ i = .int .i64 k ∧ a = .int .i64 x ∧ b = .int .i64 y ∧ wr = w ∧ g = List.foldl Fr.step (x, y) (s.data.toList.drop k))
  case atStart => exact ⟨0, 1, 0, by omega, by omega, by omega, by omega, rfl, rfl, rfl, rfl, G.out⟩
  case round =>
    obtain ⟨k, x, y, hn, hk, hx, hy, rfl, rfl, rfl, rfl, hg⟩ := hrel
    have HN : Hid (k + gk = s.size + 1) := hn
    have HG : Hid (g = List.foldl Fr.step (x, y) (s.data.toList.drop k)) := hg
    clear hn hg
    by_cases hl : k < s.size
    · have hb256 : (s[k].toNat : Int) < 256 := by have := s[k].toNat_lt; omega
      go_wp2
      go_roundg (gk - 1)
      case measure => have := HN.out; omega
      case rel =>
        have hn := HN.out
        have e := HG.out
        rw [Fr.fold_step s k x y hl] at e
        exact ⟨k + 1, _, _, by omega, by omega, Nat.mod_lt _ (by decide), Nat.mod_lt _ (by decide), by go_num, by go_num, by go_num, rfl, e⟩
    · have e := HG.out
      rw [Fr.fold_end s k x y hl] at e
      have F : Hid (r = y * 65536 + x) := by
        have := R.out; rw [e] at this; exact this
      clear e
      go_wp2
      go_ret
      rw [F.out]
      exact ⟨rfl, rfl⟩

theorem sum_is (s : ByteArray) (w : World) (hs : s.size ≤ maxLen) {n : Nat} (hn : Fr.sum s.data.toList = n) :
    Calls Try.prog 12 #[.string s] w fun e w' => e = .returned (.int .i64 n) ∧ w' = w := by
  subst hn
  exact sum_any s w hs

end Go.Proofs.Ytcelpbjlmpaijaa
