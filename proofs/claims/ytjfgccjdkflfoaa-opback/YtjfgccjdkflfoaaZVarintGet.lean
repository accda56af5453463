/-
  Package varint's Get, by a contract: what it answers for every text and every place.
-/
import Derived.Test.YtjfgccjdkflfoaaChecked
import Derived.Test.YtjfgccjdkflfoaaZPack1
import Derived.WalkKit
import Derived.WalkSpells
import Derived.WalkLawsBesides
import Derived.Deep.LoopGhost
namespace Go.Proofs.Ytjfgccjdkflfoaa
open Go.RowKit
set_option linter.unusedVariables false

theorem ret3 {a b c a' b' c' : Int} (h1 : a = a') (h2 : b = b') (h3 : c = c') :
    Ending.returned (.tuple #[.int .i64 a, .int .i64 b, .int .i64 c]) = .returned (.tuple #[.int .i64 a', .int .i64 b', .int .i64 c']) := by rw [h1, h2, h3]

set_option maxHeartbeats 1000000 in
set_option maxRecDepth 100000 in
/-- Get at a place within the text. -/
theorem get_at (s : ByteArray) (a : Nat) (w : World) (hs : s.size ≤ maxLen) (h1 : a ≤ s.size) :
    Calls Try.prog 67 #[.string s, .int .i64 a] w fun e w' => e = .returned (.tuple #[.int .i64 (Vi.getAt s.data.toList a).1, .int .i64 (Vi.getAt s.data.toList a).2.1, .int .i64 (Vi.getAt s.data.toList a).2.2]) ∧ w' = w := by
  unfold maxLen at hs
  have hd0 : decide ((a : Int) < 0) = false := by simp
  have hd1 : decide (s.size < a) = false := by simp; omega
  have hd2 : decide ((s.size : Int) < (a : Int)) = false := by simp; omega
  obtain ⟨r, hr⟩ : ∃ r, r = Vi.getAt s.data.toList a := ⟨_, rfl⟩
  rw [← hr]
  obtain ⟨g, hg⟩ : ∃ g, g = Vi.get (s.data.toList.drop a) := ⟨_, rfl⟩
  have R : Hid (r = if g.2.2 = 0 then (g.1, a + g.2.1, 0) else (0, 0, g.2.2)) := by rw [hr, hg]; rfl
  clear hr
  have G : Hid (g = Vi.getF 9 0 0 (s.data.toList.drop (a + 0))) := by rw [hg]; rfl
  clear hg
  go_enter Try.func67, Try.ntmps67
  go_wp2
  go_loopg [7, 18] 10 (fun n x i wr => ∃ k : Nat, ∃ y : Nat, k + n = 10 ∧ k ≤ 9 ∧ y < 128 ^ k ∧ a + k ≤ s.size ∧ i = .int .i64 k ∧ x = .int .i64 y ∧ wr = w ∧ g = Vi.getF (9 - k) k y (s.data.toList.drop (a + k)))
  case atStart => exact ⟨0, 0, by omega, by omega, by omega, by omega, rfl, rfl, rfl, G.out⟩
  case round =>
    obtain ⟨k, y, hn, hk, hy, hak, rfl, rfl, rfl, hg⟩ := hrel
    have HY : Hid (y < 128 ^ k ∧ k + gk = 10) := ⟨hy, hn⟩
    have HG : Hid (g = Vi.getF (9 - k) k y (s.data.toList.drop (a + k))) := hg
    clear hy hn hg
    by_cases hk9 : k < 9
    · obtain ⟨f, hf⟩ : ∃ f, 9 - k = f + 1 := ⟨8 - k, by omega⟩
      have HF : Hid (9 - k = f + 1) := hf
      clear hf
      by_cases hl : a + k < s.size
      · by_cases hb : 128 ≤ (s[a + k].toNat : Int)
        · go_wp2
          go_roundg (gk - 1)
          case measure => obtain ⟨_, h⟩ := HY.out; omega
          case rel =>
            obtain ⟨hy, hn⟩ := HY.out
            have e := HG.out
            rw [HF.out, Vi.getF_more f k y s a hl hb] at e
            exact ⟨k + 1, _, by omega, by omega, Vi.step_lt hy, by omega, by go_num, congrArg (Value.int .i64) (Vi.or_step y k _ hy hk9), rfl, by rw [show 9 - (k + 1) = f by have := HF.out; omega]; exact e⟩
        · by_cases hz : s[a + k].toNat = 0 ∧ 0 < k
          · obtain ⟨hz1, hz2⟩ := hz
            have e := HG.out
            rw [HF.out, Vi.getF_long f k y s a hl hb hz1 hz2] at e
            have F : Hid (r = (0, 0, 101)) := by
              have := R.out; rw [e] at this; exact this
            clear e
            have hb0 : (s[a + k].toNat == 0) = true := by simp [hz1]
            go_wp2
            go_ret3
            rw [F.out]
            exact ⟨rfl, rfl⟩
          · have e := HG.out
            rw [HF.out, Vi.getF_done f k y s a hl hb hz] at e
            have F : Hid (r = (y + s[a + k].toNat % 128 * 128 ^ k, a + (k + 1), 0)) := by
              have := R.out; rw [e] at this; exact this
            clear e
            by_cases hz1 : s[a + k].toNat = 0
            · have hk0 : k = 0 := by omega
              have hy0 : y = 0 := by have := HY.out.1; rw [hk0] at this; simpa using this
              have F' : Hid (r = (0, a + 1, 0)) := by rw [F.out, hz1, hk0, hy0]; rfl
              have hk1 : ¬ 0 < k := by omega
              have K0 : Hid (k = 0 ∧ y = 0) := ⟨hk0, hy0⟩
              clear hz hk0 hy0
              go_wp2
              go_ret3
              rw [F'.out]
              exact ⟨ret3 (by rw [K0.out.2]; exact (by decide : bits BinOp.or IntKind.i64 ((0 : Nat) : Int) 0 = 0)) (by have := K0.out.1; simp; omega) rfl, rfl⟩
            · clear hz
              go_wp2
              go_ret3
              rw [F.out]
              exact ⟨ret3 (Vi.or_step y k s[a + k].toNat HY.out.1 hk9) (by simp; omega) rfl, rfl⟩
      · have e := HG.out
        rw [HF.out, Vi.getF_cut f k y s a hl] at e
        have F : Hid (r = (0, 0, 100)) := by
          have := R.out; rw [e] at this; exact this
        clear e
        go_wp2
        go_ret3
        rw [F.out]
        exact ⟨rfl, rfl⟩
    · have e := HG.out
      rw [show 9 - k = 0 by omega] at e
      have F : Hid (r = (0, 0, 101)) := by
        have := R.out; rw [e] at this; exact this
      clear e
      go_wp2
      go_ret3
      rw [F.out]
      exact ⟨rfl, rfl⟩

/-- Get at whatever place. -/
theorem get_any (s : ByteArray) (a : Int) (w : World) (hs : s.size ≤ maxLen) (hw : (Lit.int .i64 a).wf = true) {x t n : Nat} (hg : Vi.getI s.data.toList a = (x, t, n)) :
    Calls Try.prog 67 #[.string s, .int .i64 a] w fun e w' => e = .returned (.tuple #[.int .i64 x, .int .i64 t, .int .i64 n]) ∧ w' = w := by
  have hlen : s.data.toList.length = s.size := by simp
  by_cases hr : 0 ≤ a ∧ a ≤ s.size
  · obtain ⟨b, rfl⟩ := Int.eq_ofNat_of_zero_le hr.1
    refine (get_at s b w hs (by omega)).mono ?_
    rintro e w' ⟨rfl, rfl⟩
    have e : Vi.getI s.data.toList (b : Int) = Vi.getAt s.data.toList b := by
      unfold Vi.getI; rw [if_pos (by rw [hlen]; exact hr), Int.toNat_natCast]
    rw [e] at hg
    rw [hg]
    exact ⟨rfl, rfl⟩
  · have e : Vi.getI s.data.toList a = (0, 0, 101) := by
      unfold Vi.getI; rw [if_neg (by rw [hlen]; exact hr)]
    rw [e] at hg
    simp only [Prod.mk.injEq] at hg
    obtain ⟨rfl, rfl, rfl⟩ := hg
    unfold maxLen at hs
    by_cases h0 : a < 0
    · go_enter Try.func67, Try.ntmps67
      go_wp2
      go_ret3
      exact ⟨rfl, rfl⟩
    · have h1 : (s.size : Int) < a := by omega
      have h2 : 0 ≤ a := by omega
      clear hr e h0 hlen
      go_enter Try.func67, Try.ntmps67
      go_wp2
      go_ret3
      exact ⟨rfl, rfl⟩

end Go.Proofs.Ytjfgccjdkflfoaa

