/-
  Package frame's Get, by a contract.
-/
import Derived.Test.YtcelpbjlmpaijaaFrameText
import Derived.Test.YtcelpbjlmpaijaaVarintGet
import Derived.Test.YtcelpbjlmpaijaaClone
import Derived.Deep.RegionHeld3
namespace Go.Proofs.Ytcelpbjlmpaijaa
open Go.RowKit
set_option linter.unusedVariables false

/-- No frame: the error alone. -/
theorem get_none {l : List UInt8} {a : Int} {x t n : Nat} (hg : Vi.getI l a = (x, t, n)) (h : ¬ (n = 0 ∧ Fr.fits l x t)) : Fr.get l a = ([], 0, 200) := by
  unfold Fr.get
  rw [hg]
  exact if_neg h

theorem get_some {l : List UInt8} {a : Int} {x t : Nat} (hg : Vi.getI l a = (x, t, 0)) (h : Fr.fits l x t) : Fr.get l a = ((l.drop (t + 4)).take x, t + 4 + x, 0) := by
  unfold Fr.get
  rw [hg]
  exact if_pos ⟨rfl, h⟩

set_option maxHeartbeats 400000 in
set_option maxRecDepth 100000 in
theorem frameGet_bad (s : ByteArray) (a : Int) (w : World) (hs : s.size ≤ maxLen) (hw : (Lit.int .i64 a).wf = true) {x t n : Nat} (G : Hid (Vi.getI s.data.toList a = (x, t, n))) (he : n ≠ 0 ∨ 32768 < x) :
    Calls Try.prog 9 #[.string s, .int .i64 a] w fun e w' => e = .returned (.tuple #[.string ⟨#[]⟩, .int .i64 0, .int .i64 200]) ∧ Below w.heap.size w w' := by
  by_cases hn : n = 0
  · subst hn
    have hx : 32768 < x := by rcases he with h | h; exact absurd rfl h; exact h
    clear he
    have hd : decide ((32768 : Int) < (x : Int)) = true := by simp; omega
    go_enter Try.func9, Try.ntmps9
    go_wp2_with (go_at_call 18; refine (get_any s a _ hs hw G.out).mono ?_; rintro e w1 ⟨rfl, rfl⟩)
    go_ret3
    exact ⟨rfl, Below.refl _ _⟩
  · have hne : ((n : Int) != 0) = true := by rw [bne_iff_ne]; omega
    clear he
    go_enter Try.func9, Try.ntmps9
    go_wp2_with (go_at_call 18; refine (get_any s a _ hs hw G.out).mono ?_; rintro e w1 ⟨rfl, rfl⟩)
    go_ret3
    exact ⟨rfl, Below.refl _ _⟩

set_option maxHeartbeats 400000 in
set_option maxRecDepth 100000 in
theorem frameGet_cut (s : ByteArray) (a : Int) (w : World) (hs : s.size ≤ maxLen) (hw : (Lit.int .i64 a).wf = true) {x t : Nat} (G : Hid (Vi.getI s.data.toList a = (x, t, 0))) (hx : ¬ 32768 < x) (ht : t ≤ s.size) (he : (s.size : Int) - (t + 4) < x) :
    Calls Try.prog 9 #[.string s, .int .i64 a] w fun e w' => e = .returned (.tuple #[.string ⟨#[]⟩, .int .i64 0, .int .i64 200]) ∧ Below w.heap.size w w' := by
  have hs' := hs
  unfold maxLen at hs'
  have hd : decide ((32768 : Int) < (x : Int)) = false := by simp; omega
  have hd2 : decide (wrap64 ((s.size : Int) - wrap64 ((t : Int) + 4)) < (x : Int)) = true := by unfold wrap64; simp; omega
  go_enter Try.func9, Try.ntmps9
  go_wp2_with (go_at_call 18; refine (get_any s a _ hs hw G.out).mono ?_; rintro e w1 ⟨rfl, rfl⟩)
  go_ret3
  exact ⟨rfl, Below.refl _ _⟩

theorem extract_le (s : ByteArray) (a b : Nat) (h : s.size ≤ maxLen) : (s.extract a b).size ≤ maxLen := by
  rw [ByteArray.size_extract]; omega

set_option maxHeartbeats 400000 in
set_option maxRecDepth 100000 in
theorem frameGet_turned (s : ByteArray) (a : Int) (w : World) (hs : s.size ≤ maxLen) (hw : (Lit.int .i64 a).wf = true) {x t : Nat} (G : Hid (Vi.getI s.data.toList a = (x, t, 0))) (hx : ¬ 32768 < x) (ht : t + 4 + x ≤ s.size)
    (hq : ((s.extract t (t + 4)).toList == Fr.four (Fr.sum (List.take x (List.drop (t + 4) s.data.toList)))) = false) :
    Calls Try.prog 9 #[.string s, .int .i64 a] w fun e w' => e = .returned (.tuple #[.string ⟨#[]⟩, .int .i64 0, .int .i64 200]) ∧ Below w.heap.size w w' := by
  have hs' := hs
  unfold maxLen at hs'
  have hd : decide ((32768 : Int) < (x : Int)) = false := by simp; omega
  have b1 : (0 : Int) ≤ (t : Int) := by omega
  have b2 : (t : Int) + 4 ≤ (s.size : Int) := by omega
  have b3 : (t : Int) + 4 + (x : Int) ≤ (s.size : Int) := by omega
  have b4 : (0 : Int) ≤ (t : Int) + 4 + (x : Int) := by omega
  have b5 : (0 : Int) ≤ (t : Int) + 4 := by omega
  have b6 : (t : Int) + 4 ≤ (t : Int) + 4 + (x : Int) := by omega
  have b7 : (t : Int) ≤ (t : Int) + 4 := by omega
  have e1 : ((t : Int) + 4).toNat = t + 4 := by omega
  have e2 : ((t : Int) + 4 + (x : Int)).toNat = t + 4 + x := by omega
  have e3 : t + 4 + x - (t + 4) = x := by omega
  have hfin : ∀ w2 : World, Below w.drew.heap.size w.drew w2 → Below w.heap.size w w2 := fun w2 h => (Below.refl _ _).drew.trans h
  go_enter Try.func9, Try.ntmps9
  go_wp2_with (go_at_call 18; refine (get_any s a _ hs hw G.out).mono ?_; rintro e w1 ⟨rfl, rfl⟩)
  go_region_held3 (fun _ => True) (trivial)
    (first | (go_at_call 16; refine (sumText_any _ _ (extract_le _ _ _ hs)).mono ?_; rintro e w2 ⟨rfl, hb2⟩))
  go_wp2
  go_ret3
  exact ⟨rfl, hfin _ hb2⟩

set_option maxHeartbeats 400000 in
set_option maxRecDepth 100000 in
theorem frameGet_ok (s : ByteArray) (a : Int) (w : World) (hs : s.size ≤ maxLen) (hw : (Lit.int .i64 a).wf = true) {x t : Nat} (G : Hid (Vi.getI s.data.toList a = (x, t, 0))) (hx : ¬ 32768 < x) (ht : t + 4 + x ≤ s.size)
    (hq : ((s.extract t (t + 4)).toList == Fr.four (Fr.sum (List.take x (List.drop (t + 4) s.data.toList)))) = true) :
    Calls Try.prog 9 #[.string s, .int .i64 a] w fun e w' => e = .returned (.tuple #[.string ⟨((s.data.toList.drop (t + 4)).take x).toArray⟩, .int .i64 (t + 4 + x : Nat), .int .i64 0]) ∧ Below w.heap.size w w' := by
  have hs' := hs
  unfold maxLen at hs'
  have hd : decide ((32768 : Int) < (x : Int)) = false := by simp; omega
  have b1 : (0 : Int) ≤ (t : Int) := by omega
  have b2 : (t : Int) + 4 ≤ (s.size : Int) := by omega
  have b3 : (t : Int) + 4 + (x : Int) ≤ (s.size : Int) := by omega
  have b4 : (0 : Int) ≤ (t : Int) + 4 + (x : Int) := by omega
  have b5 : (0 : Int) ≤ (t : Int) + 4 := by omega
  have b6 : (t : Int) + 4 ≤ (t : Int) + 4 + (x : Int) := by omega
  have b7 : (t : Int) ≤ (t : Int) + 4 := by omega
  have e1 : ((t : Int) + 4).toNat = t + 4 := by omega
  have e2 : ((t : Int) + 4 + (x : Int)).toNat = t + 4 + x := by omega
  have e3 : t + 4 + x - (t + 4) = x := by omega
  have hfin : ∀ w2 : World, Below w.drew.heap.size w.drew w2 → Below w.heap.size w w2 := fun w2 h => (Below.refl _ _).drew.trans h
  go_enter Try.func9, Try.ntmps9
  go_wp2_with (go_at_call 18; refine (get_any s a _ hs hw G.out).mono ?_; rintro e w1 ⟨rfl, rfl⟩)
  go_region_held3 (fun _ => True) (trivial)
    (first | (go_at_call 16; refine (sumText_any _ _ (extract_le _ _ _ hs)).mono ?_; rintro e w2 ⟨rfl, hb2⟩))
  go_wp2_with (go_at_call 19; refine (clone_any _ _ (by rw [Vi.extract_size s (t + 4) x (by omega)]; omega)).mono ?_; rintro e w3 ⟨rfl, hb3⟩)
  go_ret3
  exact ⟨ret_sii (Vi.extract_eq s (t + 4) x) (by simp) rfl, thenB (hfin _ hb2) hb3⟩

theorem extract4 (s : ByteArray) (t : Nat) : (s.extract t (t + 4)).toList = (s.data.toList.drop t).take 4 := by
  rw [Vi.extract_eq, ByteArray.toList_mk]

/-- Get at whatever place. -/
theorem frameGet_any (s : ByteArray) (a : Int) (w : World) (hs : s.size ≤ maxLen) (hw : (Lit.int .i64 a).wf = true) {l : List UInt8} {t n : Nat} (hp : Fr.get s.data.toList a = (l, t, n)) :
    Calls Try.prog 9 #[.string s, .int .i64 a] w fun e w' => e = .returned (.tuple #[.string ⟨l.toArray⟩, .int .i64 t, .int .i64 n]) ∧ Below w.heap.size w w' := by
  obtain ⟨x, to, er, hg⟩ : ∃ x to er, Vi.getI s.data.toList a = (x, to, er) := ⟨_, _, _, rfl⟩
  by_cases hbad : er ≠ 0 ∨ 32768 < x
  · rw [get_none hg (fun h => by rcases hbad with h1 | h1; exact h1 h.1; have := h.2.1; omega)] at hp
    simp only [Prod.mk.injEq] at hp
    obtain ⟨rfl, rfl, rfl⟩ := hp
    exact frameGet_bad s a w hs hw hg hbad
  · obtain ⟨rfl, hx⟩ : er = 0 ∧ ¬ 32768 < x := by omega
    have hok := Vi.getI_ok hg
    rw [size_list] at hok
    by_cases hin : to + 4 + x ≤ s.size
    · have hq := extract4 s to
      by_cases hf : (s.data.toList.drop to).take 4 = Fr.four (Fr.sum ((s.data.toList.drop (to + 4)).take x))
      · rw [get_some hg ⟨by omega, by rw [size_list]; exact hin, hf⟩] at hp
        simp only [Prod.mk.injEq] at hp
        obtain ⟨rfl, rfl, rfl⟩ := hp
        exact frameGet_ok s a w hs hw hg hx hin (by rw [hq, beq_iff_eq]; exact hf)
      · rw [get_none hg (fun h => hf h.2.2.2)] at hp
        simp only [Prod.mk.injEq] at hp
        obtain ⟨rfl, rfl, rfl⟩ := hp
        exact frameGet_turned s a w hs hw hg hx hin (by rw [hq, beq_eq_false_iff_ne]; exact hf)
    · rw [get_none hg (fun h => by have := h.2.2.1; rw [size_list] at this; omega)] at hp
      simp only [Prod.mk.injEq] at hp
      obtain ⟨rfl, rfl, rfl⟩ := hp
      exact frameGet_cut s a w hs hw hg hx (by omega) (by omega)

end Go.Proofs.Ytcelpbjlmpaijaa
