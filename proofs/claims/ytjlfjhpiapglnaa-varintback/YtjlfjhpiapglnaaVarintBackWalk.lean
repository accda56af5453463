/-
  The law VarintBack: numbers and texts one behind the other come back; cut ones do not: the walk.
-/
import Derived.Test.YtjlfjhpiapglnaaAwake1
import Derived.Test.YtjlfjhpiapglnaaViBack
namespace Go.Proofs.Ytjlfjhpiapglnaa.VarintBack
open Go.RowKit
set_option linter.unusedVariables false

theorem dropLast_list (l : List UInt8) : ((⟨l.toArray⟩ : ByteArray).extract 0 (l.length - 1)).data.toList = l.dropLast := by
  simp [ByteArray.data_extract, List.dropLast_eq_take]

theorem dropLast_size (l : List UInt8) : ((⟨l.toArray⟩ : ByteArray).extract 0 (l.length - 1)).size = l.length - 1 := by
  rw [← size_list, dropLast_list, List.length_dropLast]

set_option maxHeartbeats 2000000 in
set_option maxRecDepth 100000 in
theorem walk (x : Int) (s : ByteArray) (y : Int) (w : World) (hx : (Lit.int .i64 x).wf = true) (hs : s.size ≤ maxLen) (hy : (Lit.int .i64 y).wf = true) :
    Calls Try.prog 4 #[.int .i64 x, .string s, .int .i64 y] w fun e w' => e = .returned (.bool true) ∧ Below w.heap.size w w' := by
  obtain ⟨p, hp, ep⟩ : ∃ p : Nat, p < 2 ^ 62 ∧ bits .and .i64 x 4611686018427387903 = (p : Int) := Vi.and_mask x 62 (by omega)
  obtain ⟨q, hq, eq⟩ : ∃ q : Nat, q < 2 ^ 62 ∧ bits .and .i64 y 4611686018427387903 = (q : Int) := Vi.and_mask y 62 (by omega)
  unfold maxLen at hs
  obtain ⟨a, ha⟩ : ∃ a, a = Vi.put p := ⟨_, rfl⟩
  obtain ⟨c, hc⟩ : ∃ c, c = Vi.put q := ⟨_, rfl⟩
  have HA : Hid (a = Vi.put p ∧ c = Vi.put q) := ⟨ha, hc⟩
  have la : a.length ≤ 9 := by rw [ha]; exact Vi.put_length_le p
  have lc : c.length ≤ 9 := by rw [hc]; exact Vi.put_length_le q
  clear ha hc
  by_cases h : 2000 < s.size
  · go_enter Try.func4, Try.ntmps4
    go_wp2_with (first
      | (go_at_call 17; refine (awake_any _).mono ?_; rintro e w7 ⟨rfl, h7⟩))
    obtain ⟨S, hS⟩ : ∃ S, S = s.extract 0 2000 := ⟨_, rfl⟩
    have hS2 : S.size ≤ 2000 := by rw [hS, ByteArray.size_extract]; omega
    rw [← hS]
    clear hS
    obtain ⟨b, hb⟩ : ∃ b, b = Vi.put S.size ++ S.data.toList := ⟨_, rfl⟩
    have lb : b.length ≤ 2009 := by have := Vi.put_length_le S.size; rw [hb, List.length_append, size_list]; omega
    have HB : Hid (b = Vi.put S.size ++ S.data.toList) := hb
    clear hb
    refine (put_any (p : Int) _ (WalkArith.wf_i64 ⟨by omega, by omega⟩) (l := a) (n := 0) (by rw [Vi.putI_nat, HA.out.1])).mono ?_
    rintro e w1 ⟨rfl, h1⟩
    go_wp2_with fail
    refine (putText_any S _ (by unfold maxLen; omega) (l := b) (n := 0) (by rw [Vi.putText_small _ (by rw [size_list]; omega), size_list, HB.out])).mono ?_
    rintro e w2 ⟨rfl, h2⟩
    go_wp2_with fail
    refine (put_any (q : Int) _ (WalkArith.wf_i64 ⟨by omega, by omega⟩) (l := c) (n := 0) (by rw [Vi.putI_nat, HA.out.2])).mono ?_
    rintro e w3 ⟨rfl, h3⟩
    go_wp2_with fail
    obtain ⟨T, hT⟩ : ∃ T, T = (⟨#[120]⟩ ++ ⟨a.toArray⟩ ++ ⟨b.toArray⟩ ++ ⟨c.toArray⟩ : ByteArray) := ⟨_, rfl⟩
    rw [← hT]
    have hTl : T.data.toList = [120] ++ (a ++ (b ++ c)) := by rw [hT]; simp
    have hTs : T.size = 1 + a.length + b.length + c.length := by rw [← size_list, hTl]; simp; omega
    have g1 : Vi.getI T.data.toList 1 = (p, 1 + a.length, 0) := by
      rw [hTl, HA.out.1]; exact Vi.getI_put [120] p (b ++ c) (by omega)
    have g2 : Vi.getText T.data.toList ((1 + a.length : Nat) : Int) = (S.data.toList, 1 + a.length + b.length, 0) := by
      have hg := Vi.getText_put ([120] ++ a) S.data.toList c (by rw [size_list]; omega)
      rw [size_list, ← HB.out] at hg
      rw [hTl, ← List.append_assoc, ← show ([120] ++ a).length = 1 + a.length by simp; omega, hg]
      have : b.length = (Vi.put S.size).length + S.size := by rw [HB.out, List.length_append, size_list]
      simp only [Prod.mk.injEq]
      exact ⟨trivial, by omega, trivial⟩
    have g3 : Vi.getI T.data.toList ((1 + a.length + b.length : Nat) : Int) = (q, 1 + a.length + b.length + c.length, 0) := by
      have hg := Vi.getI_put ([120] ++ a ++ b) q [] (by omega)
      rw [← HA.out.2, List.append_nil] at hg
      rw [hTl, show [120] ++ (a ++ (b ++ c)) = [120] ++ a ++ b ++ c by simp, ← show ([120] ++ a ++ b).length = 1 + a.length + b.length by simp; omega, hg]
    obtain ⟨t1, ht1⟩ : ∃ t1, t1 = 1 + a.length := ⟨_, rfl⟩
    obtain ⟨t2, ht2⟩ : ∃ t2, t2 = 1 + a.length + b.length := ⟨_, rfl⟩
    rw [← hTs] at g3
    rw [← ht2] at g2 g3
    rw [← ht1] at g1 g2
    have G : Hid (Vi.getI T.data.toList 1 = (p, t1, 0) ∧ Vi.getText T.data.toList (t1 : Int) = (S.data.toList, t2, 0) ∧ Vi.getI T.data.toList (t2 : Int) = (q, T.size, 0)) := ⟨g1, g2, g3⟩
    have hT2 : T.size ≤ 4000 := by omega
    have ht1' : t1 ≤ 4000 := by omega
    have ht2' : t2 ≤ 4000 := by omega
    clear g1 g2 g3 hTs hTl hT ht1 ht2
    refine (get_any T 1 _ (by unfold maxLen; omega) (by decide) G.out.1).mono ?_
    rintro e w0 ⟨rfl, rfl⟩
    go_wp2_with fail
    refine (getText_any T t1 _ (by unfold maxLen; omega) (WalkArith.wf_i64 ⟨by omega, by omega⟩) G.out.2.1).mono ?_
    rintro e w4 ⟨rfl, h4⟩
    go_wp2_with fail
    refine (get_any T t2 _ (by unfold maxLen; omega) (WalkArith.wf_i64 ⟨by omega, by omega⟩) G.out.2.2).mono ?_
    rintro e w0 ⟨rfl, rfl⟩
    have na : a.isEmpty = false := by rw [HA.out.1]; exact List.isEmpty_eq_false_iff.2 (Vi.put_ne p)
    have na1 : 1 ≤ a.length := by rw [HA.out.1]; exact List.length_pos_iff.2 (Vi.put_ne p)
    have nb1 : 1 ≤ b.length := by rw [HB.out]; exact List.length_pos_iff.2 (by simp [Vi.put_ne])
    have nb : b.isEmpty = false := by rw [HB.out]; exact List.isEmpty_eq_false_iff.2 (by simp [Vi.put_ne])
    go_wp2_with (go_at_call 16; refine (num_any _ _).mono ?_; rintro e w0 ⟨rfl, rfl⟩)
    refine (get_any _ 0 _ (by rw [dropLast_size]; unfold maxLen; omega) (by decide) (x := 0) (t := 0) (n := 100) (by rw [dropLast_list, HA.out.1]; exact Vi.get_cut p (by omega))).mono ?_
    rintro e w0 ⟨rfl, rfl⟩
    go_wp2_with fail
    refine (getText_any _ 0 _ (by rw [dropLast_size]; unfold maxLen; omega) (by decide) (l := []) (t := 0) (n := 100) (by rw [dropLast_list, HB.out, ← size_list]; exact Vi.getText_cut _ (by rw [size_list]; omega))).mono ?_
    rintro e w5 ⟨rfl, h5⟩
    go_wp2_with (go_at_call 16; refine (num_any _ _).mono ?_; rintro e w0 ⟨rfl, rfl⟩)
    go_ret
    exact ⟨rfl, thenB (thenB (thenB (thenB (thenB h7 h1) h2) h3) h4) h5⟩
  · go_enter Try.func4, Try.ntmps4
    go_wp2_with (first
      | (go_at_call 17; refine (awake_any _).mono ?_; rintro e w7 ⟨rfl, h7⟩))
    obtain ⟨S, rfl⟩ : ∃ S, S = s := ⟨_, rfl⟩
    have hS2 : S.size ≤ 2000 := by omega
    obtain ⟨b, hb⟩ : ∃ b, b = Vi.put S.size ++ S.data.toList := ⟨_, rfl⟩
    have lb : b.length ≤ 2009 := by have := Vi.put_length_le S.size; rw [hb, List.length_append, size_list]; omega
    have HB : Hid (b = Vi.put S.size ++ S.data.toList) := hb
    clear hb
    refine (put_any (p : Int) _ (WalkArith.wf_i64 ⟨by omega, by omega⟩) (l := a) (n := 0) (by rw [Vi.putI_nat, HA.out.1])).mono ?_
    rintro e w1 ⟨rfl, h1⟩
    go_wp2_with fail
    refine (putText_any S _ (by unfold maxLen; omega) (l := b) (n := 0) (by rw [Vi.putText_small _ (by rw [size_list]; omega), size_list, HB.out])).mono ?_
    rintro e w2 ⟨rfl, h2⟩
    go_wp2_with fail
    refine (put_any (q : Int) _ (WalkArith.wf_i64 ⟨by omega, by omega⟩) (l := c) (n := 0) (by rw [Vi.putI_nat, HA.out.2])).mono ?_
    rintro e w3 ⟨rfl, h3⟩
    go_wp2_with fail
    obtain ⟨T, hT⟩ : ∃ T, T = (⟨#[120]⟩ ++ ⟨a.toArray⟩ ++ ⟨b.toArray⟩ ++ ⟨c.toArray⟩ : ByteArray) := ⟨_, rfl⟩
    rw [← hT]
    have hTl : T.data.toList = [120] ++ (a ++ (b ++ c)) := by rw [hT]; simp
    have hTs : T.size = 1 + a.length + b.length + c.length := by rw [← size_list, hTl]; simp; omega
    have g1 : Vi.getI T.data.toList 1 = (p, 1 + a.length, 0) := by
      rw [hTl, HA.out.1]; exact Vi.getI_put [120] p (b ++ c) (by omega)
    have g2 : Vi.getText T.data.toList ((1 + a.length : Nat) : Int) = (S.data.toList, 1 + a.length + b.length, 0) := by
      have hg := Vi.getText_put ([120] ++ a) S.data.toList c (by rw [size_list]; omega)
      rw [size_list, ← HB.out] at hg
      rw [hTl, ← List.append_assoc, ← show ([120] ++ a).length = 1 + a.length by simp; omega, hg]
      have : b.length = (Vi.put S.size).length + S.size := by rw [HB.out, List.length_append, size_list]
      simp only [Prod.mk.injEq]
      exact ⟨trivial, by omega, trivial⟩
    have g3 : Vi.getI T.data.toList ((1 + a.length + b.length : Nat) : Int) = (q, 1 + a.length + b.length + c.length, 0) := by
      have hg := Vi.getI_put ([120] ++ a ++ b) q [] (by omega)
      rw [← HA.out.2, List.append_nil] at hg
      rw [hTl, show [120] ++ (a ++ (b ++ c)) = [120] ++ a ++ b ++ c by simp, ← show ([120] ++ a ++ b).length = 1 + a.length + b.length by simp; omega, hg]
    obtain ⟨t1, ht1⟩ : ∃ t1, t1 = 1 + a.length := ⟨_, rfl⟩
    obtain ⟨t2, ht2⟩ : ∃ t2, t2 = 1 + a.length + b.length := ⟨_, rfl⟩
    rw [← hTs] at g3
    rw [← ht2] at g2 g3
    rw [← ht1] at g1 g2
    have G : Hid (Vi.getI T.data.toList 1 = (p, t1, 0) ∧ Vi.getText T.data.toList (t1 : Int) = (S.data.toList, t2, 0) ∧ Vi.getI T.data.toList (t2 : Int) = (q, T.size, 0)) := ⟨g1, g2, g3⟩
    have hT2 : T.size ≤ 4000 := by omega
    have ht1' : t1 ≤ 4000 := by omega
    have ht2' : t2 ≤ 4000 := by omega
    clear g1 g2 g3 hTs hTl hT ht1 ht2
    refine (get_any T 1 _ (by unfold maxLen; omega) (by decide) G.out.1).mono ?_
    rintro e w0 ⟨rfl, rfl⟩
    go_wp2_with fail
    refine (getText_any T t1 _ (by unfold maxLen; omega) (WalkArith.wf_i64 ⟨by omega, by omega⟩) G.out.2.1).mono ?_
    rintro e w4 ⟨rfl, h4⟩
    go_wp2_with fail
    refine (get_any T t2 _ (by unfold maxLen; omega) (WalkArith.wf_i64 ⟨by omega, by omega⟩) G.out.2.2).mono ?_
    rintro e w0 ⟨rfl, rfl⟩
    have na : a.isEmpty = false := by rw [HA.out.1]; exact List.isEmpty_eq_false_iff.2 (Vi.put_ne p)
    have na1 : 1 ≤ a.length := by rw [HA.out.1]; exact List.length_pos_iff.2 (Vi.put_ne p)
    have nb1 : 1 ≤ b.length := by rw [HB.out]; exact List.length_pos_iff.2 (by simp [Vi.put_ne])
    have nb : b.isEmpty = false := by rw [HB.out]; exact List.isEmpty_eq_false_iff.2 (by simp [Vi.put_ne])
    go_wp2_with (go_at_call 16; refine (num_any _ _).mono ?_; rintro e w0 ⟨rfl, rfl⟩)
    refine (get_any _ 0 _ (by rw [dropLast_size]; unfold maxLen; omega) (by decide) (x := 0) (t := 0) (n := 100) (by rw [dropLast_list, HA.out.1]; exact Vi.get_cut p (by omega))).mono ?_
    rintro e w0 ⟨rfl, rfl⟩
    go_wp2_with fail
    refine (getText_any _ 0 _ (by rw [dropLast_size]; unfold maxLen; omega) (by decide) (l := []) (t := 0) (n := 100) (by rw [dropLast_list, HB.out, ← size_list]; exact Vi.getText_cut _ (by rw [size_list]; omega))).mono ?_
    rintro e w5 ⟨rfl, h5⟩
    go_wp2_with (go_at_call 16; refine (num_any _ _).mono ?_; rintro e w0 ⟨rfl, rfl⟩)
    go_ret
    exact ⟨rfl, thenB (thenB (thenB (thenB (thenB h7 h1) h2) h3) h4) h5⟩

end Go.Proofs.Ytjlfjhpiapglnaa.VarintBack
