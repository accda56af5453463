/-
  The document's own GetFrame (the reference package), by a contract: the same plain function as frame's Get.
-/
import Derived.Test.YtcelpbjlmpaijaaFrameGet
import Derived.Test.YtcelpbjlmpaijaaRefSum
import Derived.Test.YtcelpbjlmpaijaaRefGetNum
import Derived.Deep.QuietTactic
import Derived.BigQuiet
namespace Go.Proofs.Ytcelpbjlmpaijaa
open Go.RowKit
set_option linter.unusedVariables false

set_option maxHeartbeats 400000 in
set_option maxRecDepth 100000 in
theorem refGetFrame_bad (s : ByteArray) (a : Int) (w : World) (hs : s.size ≤ maxLen) (hw : (Lit.int .i64 a).wf = true) {x t n : Nat} (G : Hid (Vi.getI s.data.toList a = (x, t, n))) (he : n ≠ 0 ∨ 32768 < x) :
    Calls Try.prog 10 #[.string s, .int .i64 a] w fun e w' => e = .returned (.tuple #[.string ⟨#[]⟩, .int .i64 0, .int .i64 200]) ∧ Below w.heap.size w w' := by
  by_cases hn : n = 0
  · subst hn
    have hx : 32768 < x := by rcases he with h | h; exact absurd rfl h; exact h
    clear he
    have hd : decide ((32768 : Int) < (x : Int)) = true := by simp; omega
    go_enter Try.func10, Try.ntmps10
    go_wp2_with (go_at_call 20; refine (refGetNum_any s a _ hs hw G.out).mono ?_; rintro e w1 ⟨rfl, rfl⟩)
    go_ret3
    exact ⟨rfl, Below.refl _ _⟩
  · have hne : ((n : Int) != 0) = true := by rw [bne_iff_ne]; omega
    clear he
    go_enter Try.func10, Try.ntmps10
    go_wp2_with (go_at_call 20; refine (refGetNum_any s a _ hs hw G.out).mono ?_; rintro e w1 ⟨rfl, rfl⟩)
    go_ret3
    exact ⟨rfl, Below.refl _ _⟩

set_option maxHeartbeats 400000 in
set_option maxRecDepth 100000 in
theorem refGetFrame_cut (s : ByteArray) (a : Int) (w : World) (hs : s.size ≤ maxLen) (hw : (Lit.int .i64 a).wf = true) {x t : Nat} (G : Hid (Vi.getI s.data.toList a = (x, t, 0))) (hx : ¬ 32768 < x) (ht : t ≤ s.size) (he : (s.size : Int) - t - 4 < x) :
    Calls Try.prog 10 #[.string s, .int .i64 a] w fun e w' => e = .returned (.tuple #[.string ⟨#[]⟩, .int .i64 0, .int .i64 200]) ∧ Below w.heap.size w w' := by
  have hs' := hs
  unfold maxLen at hs'
  have hd : decide ((32768 : Int) < (x : Int)) = false := by simp; omega
  have hd2 : decide ((s.size : Int) - t - 4 < (x : Int)) = true := by simp; omega
  go_enter Try.func10, Try.ntmps10
  go_wp2_with (go_at_call 20; refine (refGetNum_any s a _ hs hw G.out).mono ?_; rintro e w1 ⟨rfl, rfl⟩)
  go_ret3
  exact ⟨rfl, Below.refl _ _⟩

theorem or4 (b0 b1 b2 b3 : Nat) (h0 : b0 < 256) (h1 : b1 < 256) (h2 : b2 < 256) (h3 : b3 < 256) :
    bits .or .i64 (bits .or .i64 (bits .or .i64 (wrap64 (wrap64 (b0 : Int) * 16777216)) (wrap64 (wrap64 (b1 : Int) * 65536))) (wrap64 (wrap64 (b2 : Int) * 256))) (wrap64 (b3 : Int)) = ((b0 * 16777216 + b1 * 65536 + b2 * 256 + b3 : Nat) : Int) := by
  have e0 : wrap64 (wrap64 (b0 : Int) * 16777216) = ((2 ^ 24 * b0 : Nat) : Int) := by unfold wrap64; omega
  have e1 : wrap64 (wrap64 (b1 : Int) * 65536) = ((b1 * 65536 : Nat) : Int) := by unfold wrap64; omega
  have e2 : wrap64 (wrap64 (b2 : Int) * 256) = ((b2 * 256 : Nat) : Int) := by unfold wrap64; omega
  have e3 : wrap64 (b3 : Int) = ((b3 : Nat) : Int) := by unfold wrap64; omega
  rw [e0, e1, e2, e3]
  rw [Vi.i64_or_join b0 (b1 * 65536) 24 (by omega) (by omega)]
  rw [show (2 ^ 24 * b0 + b1 * 65536 : Nat) = 2 ^ 16 * (256 * b0 + b1) by omega]
  rw [Vi.i64_or_join (256 * b0 + b1) (b2 * 256) 16 (by omega) (by omega)]
  rw [show (2 ^ 16 * (256 * b0 + b1) + b2 * 256 : Nat) = 2 ^ 8 * (65536 * b0 + 256 * b1 + b2) by omega]
  rw [Vi.i64_or_join (65536 * b0 + 256 * b1 + b2) b3 8 (by omega) (by omega)]
  congr 1
  omega

theorem four_iff (n : Nat) (hn : n < 4294967296) (b0 b1 b2 b3 : UInt8) : [b0, b1, b2, b3] = Fr.four n ↔ n = b0.toNat * 16777216 + b1.toNat * 65536 + b2.toNat * 256 + b3.toNat := by
  have h0 := b0.toNat_lt
  have h1 := b1.toNat_lt
  have h2 := b2.toNat_lt
  have h3 := b3.toNat_lt
  unfold Fr.four
  simp only [List.cons.injEq, and_true, ← UInt8.toNat_inj, UInt8.toNat_ofNat']
  omega

theorem take4 (s : ByteArray) (t : Nat) (h : t + 4 ≤ s.size) : (s.data.toList.drop t).take 4 = [s[t], s[t + 1], s[t + 2], s[t + 3]] := by
  rw [Vi.drop_step s t (by omega), Vi.drop_step s (t + 1) (by omega), Vi.drop_step s (t + 2) (by omega), Vi.drop_step s (t + 3) (by omega)]
  rfl

/-- The test, as the walk spells it. -/
theorem test_bne (s : ByteArray) (t n : Nat) (hn : n < 4294967296) (h : t + 4 ≤ s.size) (h0 : t < s.size) (h1 : t + 1 < s.size) (h2 : t + 2 < s.size) (h3 : t + 3 < s.size) :
    ((n : Int) != bits .or .i64 (bits .or .i64 (bits .or .i64 (wrap64 (wrap64 ((s[t]'h0).toNat : Int) * 16777216)) (wrap64 (wrap64 ((s[t + 1]'h1).toNat : Int) * 65536))) (wrap64 (wrap64 ((s[t + 2]'h2).toNat : Int) * 256))) (wrap64 ((s[t + 3]'h3).toNat : Int))) = !((s.data.toList.drop t).take 4 == Fr.four n) := by
  rw [or4 _ _ _ _ (s[t]'h0).toNat_lt (s[t + 1]'h1).toNat_lt (s[t + 2]'h2).toNat_lt (s[t + 3]'h3).toNat_lt, take4 s t h]
  have e := four_iff n hn (s[t]'h0) (s[t + 1]'h1) (s[t + 2]'h2) (s[t + 3]'h3)
  by_cases hc : [s[t]'h0, s[t + 1]'h1, s[t + 2]'h2, s[t + 3]'h3] = Fr.four n
  · have e' := e.1 hc
    rw [beq_iff_eq.2 hc, bne_eq_false_iff_eq.2 (by omega)]
    rfl
  · have e' := fun h => hc (e.2 h)
    rw [beq_eq_false_iff_ne.2 hc, bne_iff_ne.2 (fun h => e' (by omega))]
    rfl

theorem drewN_below (w : World) (n : Nat) : Below w.heap.size w (w.drewN n) := ⟨rfl, rfl, rfl, Nat.le_refl _, fun _ _ => rfl⟩

set_option maxHeartbeats 400000 in
set_option maxRecDepth 100000 in
theorem refGetFrame_turned (s : ByteArray) (a : Int) (w : World) (hs : s.size ≤ maxLen) (hw : (Lit.int .i64 a).wf = true) {x t : Nat} (G : Hid (Vi.getI s.data.toList a = (x, t, 0))) (hx : ¬ 32768 < x) (ht : t + 4 + x ≤ s.size)
    (hq : ((s.data.toList.drop t).take 4 == Fr.four (Fr.sum ((s.data.toList.drop (t + 4)).take x))) = false) :
    Calls Try.prog 10 #[.string s, .int .i64 a] w fun e w' => e = .returned (.tuple #[.string ⟨#[]⟩, .int .i64 0, .int .i64 200]) ∧ Below w.heap.size w w' := by
  have hs' := hs
  unfold maxLen at hs'
  have hd : decide ((32768 : Int) < (x : Int)) = false := by simp; omega
  have hd2 : decide ((s.size : Int) - t - 4 < (x : Int)) = false := by simp; omega
  have b1 : (0 : Int) ≤ (t : Int) := by omega
  have b2 : (t : Int) + 4 ≤ (s.size : Int) := by omega
  have b3 : (t : Int) + 4 + (x : Int) ≤ (s.size : Int) := by omega
  have b4 : (0 : Int) ≤ (t : Int) + 4 + (x : Int) := by omega
  have b5 : (0 : Int) ≤ (t : Int) + 4 := by omega
  have b6 : (t : Int) + 4 ≤ (t : Int) + 4 + (x : Int) := by omega
  have b7 : (t : Int) ≤ (t : Int) + 4 := by omega
  have e1 : ((t : Int) + 4).toNat = t + 4 := by omega
  have e2 : ((t : Int) + 4 + (x : Int)).toNat = t + 4 + x := by omega
  have e3 : t + 4 + x - (t + 4) = x := by omega
  have c0 : (t : Int) < (s.size : Int) := by omega
  have c1 : (t : Int) + 1 < (s.size : Int) := by omega
  have c2 : (t : Int) + 2 < (s.size : Int) := by omega
  have c3 : (t : Int) + 3 < (s.size : Int) := by omega
  have d1 : (0 : Int) ≤ (t : Int) + 1 := by omega
  have d2 : (0 : Int) ≤ (t : Int) + 2 := by omega
  have d3 : (0 : Int) ≤ (t : Int) + 3 := by omega
  have t1 : ((t : Int) + 1).toNat = t + 1 := by omega
  have t2 : ((t : Int) + 2).toNat = t + 2 := by omega
  have t3 : ((t : Int) + 3).toNat = t + 3 := by omega
  have H := test_bne s t (Fr.sum ((s.data.toList.drop (t + 4)).take x)) (Fr.sum_lt _) (by omega) (by omega) (by omega) (by omega) (by omega)
  rw [hq] at H
  clear hq
  go_enter Try.func10, Try.ntmps10
  go_wp2_with (go_at_call 20; refine (refGetNum_any s a _ hs hw G.out).mono ?_; rintro e w1 ⟨rfl, rfl⟩)
  go_quiet (fail)
  go_wp2_with (go_at_call 13; refine (refSum_any _ _ (extract_le _ _ _ hs)).mono ?_; rintro e w2 ⟨rfl, rfl⟩)
  go_ret3
  exact ⟨rfl, drewN_below _ _⟩

set_option maxHeartbeats 400000 in
set_option maxRecDepth 100000 in
theorem refGetFrame_ok (s : ByteArray) (a : Int) (w : World) (hs : s.size ≤ maxLen) (hw : (Lit.int .i64 a).wf = true) {x t : Nat} (G : Hid (Vi.getI s.data.toList a = (x, t, 0))) (hx : ¬ 32768 < x) (ht : t + 4 + x ≤ s.size)
    (hq : ((s.data.toList.drop t).take 4 == Fr.four (Fr.sum ((s.data.toList.drop (t + 4)).take x))) = true) :
    Calls Try.prog 10 #[.string s, .int .i64 a] w fun e w' => e = .returned (.tuple #[.string ⟨((s.data.toList.drop (t + 4)).take x).toArray⟩, .int .i64 (t + 4 + x : Nat), .int .i64 0]) ∧ Below w.heap.size w w' := by
  have hs' := hs
  unfold maxLen at hs'
  have hd : decide ((32768 : Int) < (x : Int)) = false := by simp; omega
  have hd2 : decide ((s.size : Int) - t - 4 < (x : Int)) = false := by simp; omega
  have b1 : (0 : Int) ≤ (t : Int) := by omega
  have b2 : (t : Int) + 4 ≤ (s.size : Int) := by omega
  have b3 : (t : Int) + 4 + (x : Int) ≤ (s.size : Int) := by omega
  have b4 : (0 : Int) ≤ (t : Int) + 4 + (x : Int) := by omega
  have b5 : (0 : Int) ≤ (t : Int) + 4 := by omega
  have b6 : (t : Int) + 4 ≤ (t : Int) + 4 + (x : Int) := by omega
  have b7 : (t : Int) ≤ (t : Int) + 4 := by omega
  have e1 : ((t : Int) + 4).toNat = t + 4 := by omega
  have e2 : ((t : Int) + 4 + (x : Int)).toNat = t + 4 + x := by omega
  have e3 : t + 4 + x - (t + 4) = x := by omega
  have c0 : (t : Int) < (s.size : Int) := by omega
  have c1 : (t : Int) + 1 < (s.size : Int) := by omega
  have c2 : (t : Int) + 2 < (s.size : Int) := by omega
  have c3 : (t : Int) + 3 < (s.size : Int) := by omega
  have d1 : (0 : Int) ≤ (t : Int) + 1 := by omega
  have d2 : (0 : Int) ≤ (t : Int) + 2 := by omega
  have d3 : (0 : Int) ≤ (t : Int) + 3 := by omega
  have t1 : ((t : Int) + 1).toNat = t + 1 := by omega
  have t2 : ((t : Int) + 2).toNat = t + 2 := by omega
  have t3 : ((t : Int) + 3).toNat = t + 3 := by omega
  have H := test_bne s t (Fr.sum ((s.data.toList.drop (t + 4)).take x)) (Fr.sum_lt _) (by omega) (by omega) (by omega) (by omega) (by omega)
  rw [hq] at H
  clear hq
  go_enter Try.func10, Try.ntmps10
  go_wp2_with (go_at_call 20; refine (refGetNum_any s a _ hs hw G.out).mono ?_; rintro e w1 ⟨rfl, rfl⟩)
  go_quiet (fail)
  go_wp2_with (go_at_call 13; refine (refSum_any _ _ (extract_le _ _ _ hs)).mono ?_; rintro e w2 ⟨rfl, rfl⟩)
  go_ret3
  exact ⟨ret_sii (Vi.extract_eq s (t + 4) x) (by simp) rfl, drewN_below _ _⟩

/-- GetFrame at whatever place. -/
theorem refGetFrame_any (s : ByteArray) (a : Int) (w : World) (hs : s.size ≤ maxLen) (hw : (Lit.int .i64 a).wf = true) {l : List UInt8} {t n : Nat} (hp : Fr.get s.data.toList a = (l, t, n)) :
    Calls Try.prog 10 #[.string s, .int .i64 a] w fun e w' => e = .returned (.tuple #[.string ⟨l.toArray⟩, .int .i64 t, .int .i64 n]) ∧ Below w.heap.size w w' := by
  obtain ⟨x, to, er, hg⟩ : ∃ x to er, Vi.getI s.data.toList a = (x, to, er) := ⟨_, _, _, rfl⟩
  by_cases hbad : er ≠ 0 ∨ 32768 < x
  · rw [get_none hg (fun h => by rcases hbad with h1 | h1; exact h1 h.1; have := h.2.1; omega)] at hp
    simp only [Prod.mk.injEq] at hp
    obtain ⟨rfl, rfl, rfl⟩ := hp
    exact refGetFrame_bad s a w hs hw hg hbad
  · obtain ⟨rfl, hx⟩ : er = 0 ∧ ¬ 32768 < x := by omega
    have hok := Vi.getI_ok hg
    rw [size_list] at hok
    by_cases hin : to + 4 + x ≤ s.size
    · by_cases hf : (s.data.toList.drop to).take 4 = Fr.four (Fr.sum ((s.data.toList.drop (to + 4)).take x))
      · rw [get_some hg ⟨by omega, by rw [size_list]; exact hin, hf⟩] at hp
        simp only [Prod.mk.injEq] at hp
        obtain ⟨rfl, rfl, rfl⟩ := hp
        exact refGetFrame_ok s a w hs hw hg hx hin (beq_iff_eq.2 hf)
      · rw [get_none hg (fun h => hf h.2.2.2)] at hp
        simp only [Prod.mk.injEq] at hp
        obtain ⟨rfl, rfl, rfl⟩ := hp
        exact refGetFrame_turned s a w hs hw hg hx hin (beq_eq_false_iff_ne.2 hf)
    · rw [get_none hg (fun h => by have := h.2.2.1; rw [size_list] at this; omega)] at hp
      simp only [Prod.mk.injEq] at hp
      obtain ⟨rfl, rfl, rfl⟩ := hp
      exact refGetFrame_cut s a w hs hw hg hx (by omega) (by omega)

end Go.Proofs.Ytcelpbjlmpaijaa
