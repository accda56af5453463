/-
  The walk of the law OrsetForms: kinds, dots and values that may not be.
-/
import Derived.Test.YtedgobdeoheaoaaAwake9
import Derived.Test.YtedgobdeoheaoaaBytes
import Derived.Test.YtedgobdeoheaoaaStrs
import Derived.Test.YtedgobdeoheaoaaMasks
import Derived.OwnWalk
namespace Go.Proofs.Ytedgobdeoheaoaa.OrsetForms
open Go.RowKit Go.Shelf
set_option linter.unusedVariables false
set_option linter.unusedSimpArgs false

theorem mod6 (a : Int) : ∃ k : Nat, k < 6 ∧ (IntKind.u64.wrap a).tmod 6 = (k : Int) := by
  have h1 : IntKind.u64.wrap a = a % 18446744073709551616 := by simp [IntKind.wrap, IntKind.bits, IntKind.signed]
  rw [h1]
  generalize hz : a % 18446744073709551616 = z
  have hz0 : 0 ≤ z := by omega
  rw [Int.tmod_eq_emod_of_nonneg hz0]
  exact ⟨(z % 6).toNat, by omega, by omega⟩

/-- The one entry, as it lies. -/
abbrev en1 : List Value := [.int .i64 0, .int .i64 2, .string bA]
/-- A cell of that kind of the one entry. -/
def kc (k : Int) : Ce := ⟨k, false, 0, 0, ByteArray.empty, 0, 0, [⟨0, 2, bA⟩], [], []⟩
abbrev kl (k : Int) (g : Nat) : List Value := [.int .i64 k, .bool false, .int .i64 0, .int .i64 0, .string ⟨#[]⟩, .int .i64 0, .int .i64 0, .slice (some ⟨g, 0, none⟩) 1 1, .slice none 0 0, .slice none 0 0]
abbrev kv (k : Int) (g : Nat) : Value := .agg #[.int .i64 k, .bool false, .int .i64 0, .int .i64 0, .string ⟨#[]⟩, .int .i64 0, .int .i64 0, .slice (some ⟨g, 0, none⟩) 1 1, .slice none 0 0, .slice none 0 0]
abbrev pk (g : Nat) : Pl := ⟨some ⟨g, 0, none⟩, 1, none, 0, none, 0⟩

theorem has_row {w : World} {g : Nat} {xs : List Value} (h : Has w g xs) : FRow w (some ⟨g, 0, none⟩) xs := fun _ => ⟨g, 0, rfl, h.1, fun i u hu => by rw [Nat.zero_add]; exact (h.2 i u hu).1⟩
theorem small1 : Small [⟨0, 2, bA⟩] := small_aw (by decide) (by decide +kernel)
theorem kfit (k : Int) : Fit (kc k) := by
  obtain ⟨h1, h2, h3, h4, h5, h6⟩ := small1.fit
  exact ⟨h1, h2, h3, h4, h5, h6⟩
theorem krow {w : World} {g : Nat} (k : Int) (h : Has w g en1) : CRow w (kc k) (pk g) := ⟨has_row h, FRow.nil _ _, FRow.nil _ _⟩

theorem kput_yes (g : Nat) (w : World) (h : Has w g en1) :
    Calls Try.prog 10 #[kv 2 g, .agg #[.int .i64 1, .int .i64 2], .string bB] w fun e w' => ∃ q', e = .returned (.tuple #[slV 2 q', .int .i64 0]) ∧ Below w.heap.size w w' :=
  (puts_yes (l := [⟨0, 2, bA⟩]) (q := pk g) (d := (1, 2)) (v := bB) w [⟨0, 2, bA⟩, ⟨1, 2, bB⟩] 1 2 rfl (has_row h) small1 (by decide +kernel) rfl rfl).mono fun e w' ⟨q', h1, _, h2⟩ => ⟨q', h1, h2⟩
theorem kput_no (k : Int) (g : Nat) (d1 d2 : Int) (v : ByteArray) (w : World) (h : Has w g en1) (hv : v.size ≤ maxLen) (hb : putB (kc k) (d1, d2) v = false) :
    Calls Try.prog 10 #[kv k g, .agg #[.int .i64 d1, .int .i64 d2], .string v] w fun e w' => e = .returned (.tuple #[zv 0, .int .i64 900]) ∧ Below w.heap.size w w' :=
  put_no (kc k) (pk g) (d1, d2) v w (krow k h) (kfit k) hv hb
theorem kdrop_no (k : Int) (g : Nat) (v : Value) (w : World) (hk : k ≠ 2) :
    Calls Try.prog 12 #[kv k g, v] w fun e w' => e = .returned (.tuple #[zv 0, .int .i64 900]) ∧ Below w.heap.size w w' :=
  drop_no (kc k) (pk g) v w (by simpa [kc] using hk)
theorem kvals_no (k : Int) (g : Nat) (w : World) (hk : k ≠ 2) :
    Calls Try.prog 14 #[kv k g] w fun e w' => e = .returned (.tuple #[.slice none 0 0, .int .i64 900]) ∧ Below w.heap.size w w' :=
  vals_no (kc k) (pk g) w (by simpa [kc] using hk)
theorem kdots_no (k : Int) (g : Nat) (v : ByteArray) (w : World) (hk : k ≠ 2) :
    Calls Try.prog 16 #[kv k g, .string v] w fun e w' => e = .returned (.tuple #[.slice none 0 0, .int .i64 900]) ∧ Below w.heap.size w w' :=
  dots_no (kc k) (pk g) v w (by simpa [kc] using hk)
theorem kputB (k d1 d2 : Int) (v : ByteArray) : putB (kc k) (d1, d2) v = (decide (k = 2) && (mayB d1 d2 16 && (decide (v.size ≤ 256) && !hasD [⟨0, 2, bA⟩] (d1, d2)))) := rfl
theorem dot3_any (w : World) : Calls Try.prog 26 #[.int .i64 3] w fun e w' => e = .returned (.agg #[.int .i64 0, .int .i64 2]) ∧ Below w.heap.size w w' := dot_any 3 (by omega) w
theorem dot4_any (w : World) : Calls Try.prog 26 #[.int .i64 4] w fun e w' => e = .returned (.agg #[.int .i64 1, .int .i64 2]) ∧ Below w.heap.size w w' := dot_any 4 (by omega) w

set_option maxHeartbeats 4000000 in
set_option maxRecDepth 100000 in
theorem walk (which x : Int) (w : World) (_ : (Lit.int .i64 which).wf = true) (_ : (Lit.int .i64 x).wf = true) :
    Calls Try.prog 6 #[.int .i64 which, .int .i64 x] w fun e w' => e = .returned (.bool true) ∧ Below w.heap.size w w' := by
  obtain ⟨k, hk, ek⟩ := mod6 which
  obtain ⟨z, hz, ez⟩ : ∃ z : Nat, z < 64 ∧ bits .and .i64 x 63 = (z : Int) := and_mask x 6 (by omega)
  obtain ⟨i0, hi0, hz0, hz1, hz2⟩ := info_parts Try.infoByte
  obtain ⟨h, hh⟩ : ∃ h, w.heap.size = h := ⟨_, rfl⟩
  rw [hh]
  go_enter Try.func6, Try.ntmps6
  go_wp2_with fail
  refine (awake9_any _).mono ?_
  rintro e w1 ⟨rfl, b1⟩
  have H1 : Hid (Regs h w w1 []) := ⟨hh ▸ b1, by have := b1.size; omega⟩
  clear b1
  go_wp2_with fail
  refine (dot3_any _).mono ?_
  rintro e w2 ⟨rfl, b2⟩
  have H2 : Hid (Regs h w w2 []) := H1.out.later b2
  obtain ⟨g, hg⟩ : ∃ g, w2.heap.size = g := ⟨_, rfl⟩
  have HG : Hid (h ≤ g) := by have := H2.out.2; show h ≤ g; omega
  have H3 : Hid (Regs h w ((w2.alloc (.cells en1.toArray 65)).alloc (.cells (kl 2 g).toArray 30)) [(g + 1, kl 2 g), (g, en1)]) := Regs.push (Regs.push H2.out hg en1 _) (by simp [hg]) (kl 2 g) _
  clear b2 H1 H2
  go_wp2_with fail
  refine (dot4_any _).mono ?_
  rintro e w4 ⟨rfl, b4⟩
  obtain ⟨d, hd⟩ : ∃ d, w4.heap.size = d := ⟨_, rfl⟩
  have H4 : Hid (Regs h w (w4.alloc (.cells #[.int .i64 1, .int .i64 2] 32)) [(d, [.int .i64 1, .int .i64 2]), (g + 1, kl 2 g), (g, en1)]) := Regs.push (H3.out.later b4) hd [.int .i64 1, .int .i64 2] _
  have l1 : g + 1 < d := by have := (H3.out.later b4).1.1; omega
  obtain ⟨t0, t1, t2, t3, t4, t5, t6, t7, t8, t9⟩ := (H3.out.later b4).1.ten
  clear b4 H3 hg
  go_wp2_with fail
  refine (kput_yes g _ H4.out.2.2.1).mono ?_
  rintro e w5 ⟨q5, rfl, b5⟩
  have H5 : Hid (Regs h w w5 [(d, [.int .i64 1, .int .i64 2]), (g + 1, kl 2 g), (g, en1)]) := H4.out.later b5
  obtain ⟨m, hm⟩ : ∃ m, w5.heap.size = m := ⟨_, rfl⟩
  have l2 : d < m := by have := H5.out.1.1; omega
  clear H4 b5 t0 t1 t2 t3 t4 t5 t6 t7 t8 t9 hd
  obtain ⟨t0, t1, t2, t3, t4, t5, t6, t7, t8, t9⟩ := H5.out.2.1.ten
  have l3 : g + 1 < m := by omega
  have e2 : (2 : Int) + (1 + (z : Int)) ≠ 2 := by omega
  have H6 : Hid (Regs h w ((w5.alloc (.cells (slL 2 q5).toArray 30)).alloc (.cells (kl (2 + (1 + (z : Int))) g).toArray 30)) [(m + 1, kl (2 + (1 + (z : Int))) g), (d, [.int .i64 1, .int .i64 2]), (g + 1, kl 2 g), (g, en1)]) := Regs.push (H5.out.later ((Below.refl _ _).alloc (Nat.le_refl _) _)) (by simp [hm]) (kl (2 + (1 + (z : Int))) g) _
  go_wp2_with fail
  refine (kdrop_no (2 + (1 + (z : Int))) g _ _ e2).mono ?_
  rintro e w7 ⟨rfl, b7⟩
  have H7 : Hid (Regs h w (w7.alloc (.cells (zl 0).toArray 30)) [(m + 1, kl (2 + (1 + (z : Int))) g), (d, [.int .i64 1, .int .i64 2]), (g + 1, kl 2 g), (g, en1)]) := (H6.out.later b7).later ((Below.refl _ _).alloc (Nat.le_refl _) _)
  obtain ⟨n, hn⟩ : ∃ n, w7.heap.size = n := ⟨_, rfl⟩
  have l4 : m + 1 < n := by have := (H6.out.later b7).1.1; omega
  obtain ⟨s0, s1, s2, s3, s4, s5, s6, s7, s8, s9⟩ := (H6.out.later b7).1.ten
  clear H5 H6 b7 t0 t1 t2 t3 t4 t5 t6 t7 t8 t9 hm
  go_wp2_with fail
  refine (kvals_no (2 + (1 + (z : Int))) g _ e2).mono ?_
  rintro e w8 ⟨rfl, b8⟩
  have H8 : Hid (Regs h w w8 [(m + 1, kl (2 + (1 + (z : Int))) g), (d, [.int .i64 1, .int .i64 2]), (g + 1, kl 2 g), (g, en1)]) := H7.out.later b8
  clear H7 b8 s0 s1 s2 s3 s4 s5 s6 s7 s8 s9 hn l4
  obtain ⟨s0, s1, s2, s3, s4, s5, s6, s7, s8, s9⟩ := H8.out.1.ten
  go_wp2_with fail
  refine (kdots_no (2 + (1 + (z : Int))) g bA _ e2).mono ?_
  rintro e w9 ⟨rfl, b9⟩
  have H9 : Hid (Regs h w w9 [(d, [.int .i64 1, .int .i64 2]), (g + 1, kl 2 g), (g, en1)]) := (H8.out.later b9).2
  clear H8 b9 s0 s1 s2 s3 s4 s5 s6 s7 s8 s9 l2 l3 e2
  obtain ⟨t0, t1, t2, t3, t4, t5, t6, t7, t8, t9⟩ := H9.out.2.1.ten
  have s0 := H9.out.1.at 0 rfl
  have s1 := H9.out.1.at 1 rfl
  have hgd : ¬ g + 1 = d := by omega
  have hdg : ¬ d = g + 1 := by omega
  have hzz : z < 64 := hz
  have h6 : k = 0 ∨ k = 1 ∨ k = 2 ∨ k = 3 ∨ k = 4 ∨ k = 5 := by omega
  clear hk
  rcases h6 with rfl | rfl | rfl | rfl | rfl | rfl
  · have f0 := H9.out.2.1.free 0 rfl
    have BB : Hid (Below h w (w9.setCell ⟨g + 1, 0, none⟩ (.int .i64 (-(1 + (z : Int))))) ∧ Has (w9.setCell ⟨g + 1, 0, none⟩ (.int .i64 (-(1 + (z : Int))))) g en1) := ⟨H9.out.base.1.setCell (p := ⟨g + 1, 0, none⟩) (by have := HG.out; show h ≤ g + 1; omega) _, H9.out.2.2.1.other (by omega) _ _⟩
    go_wp2_with fail
    refine (kput_no (-(1 + (z : Int))) g 1 2 bB _ BB.out.2 (by decide +kernel) (by rw [kputB]; simp only [mayB, Bool.and_eq_false_iff, decide_eq_false_iff_not]; omega)).mono ?_
    rintro e w10 ⟨rfl, b10⟩
    have H10 : Hid (Regs h w w10 []) := ⟨BB.out.1.trans (b10.mono (Nat.le_trans (Nat.le_of_eq hh.symm) BB.out.1.size)), by have := BB.out.1.size; have := b10.size; omega⟩
    clear BB b10 H9 t0 t1 t2 t3 t4 t5 t6 t7 t8 t9 s0 s1 HG
    obtain ⟨q, hq⟩ : ∃ q, w10.heap.size = q := ⟨_, rfl⟩
    have H11 : Hid (Regs h w (w10.alloc (.cells (zl 0).toArray 30)) []) := H10.out.later ((Below.refl _ _).alloc (Nat.le_refl _) _)
    clear H10
    go_wp2_with (go_at_call 19; refine (num_any _ _).mono ?_; rintro e w0 ⟨rfl, hw0⟩; have hw1 := hw0.symm; clear hw0; subst hw1)
    refine (same_none _).mono ?_
    rintro e w12 ⟨rfl, b12⟩
    have H12 : Hid (Regs h w w12 []) := H11.out.later b12
    clear H11 b12
    go_wp2_with (go_at_call 19; refine (num_any _ _).mono ?_; rintro e w0 ⟨rfl, hw0⟩; have hw1 := hw0.symm; clear hw0; subst hw1)
    go_ret
    exact ⟨rfl, H12.out.1⟩
  · have f0 := H9.out.1.free 0 rfl
    have BB : Hid (Below h w (w9.setCell ⟨d, 0, none⟩ (.int .i64 (15 + (1 + (z : Int))))) ∧ Has (w9.setCell ⟨d, 0, none⟩ (.int .i64 (15 + (1 + (z : Int))))) g en1) := ⟨H9.out.base.1.setCell (p := ⟨d, 0, none⟩) (by have := HG.out; show h ≤ d; omega) _, H9.out.2.2.1.other (by omega) _ _⟩
    go_wp2_with fail
    refine (kput_no 2 g (15 + (1 + (z : Int))) 2 bB _ BB.out.2 (by decide +kernel) (by rw [kputB]; simp only [mayB, Bool.and_eq_false_iff, decide_eq_false_iff_not]; omega)).mono ?_
    rintro e w10 ⟨rfl, b10⟩
    have H10 : Hid (Regs h w w10 []) := ⟨BB.out.1.trans (b10.mono (Nat.le_trans (Nat.le_of_eq hh.symm) BB.out.1.size)), by have := BB.out.1.size; have := b10.size; omega⟩
    clear BB b10 H9 t0 t1 t2 t3 t4 t5 t6 t7 t8 t9 s0 s1 HG
    obtain ⟨q, hq⟩ : ∃ q, w10.heap.size = q := ⟨_, rfl⟩
    have H11 : Hid (Regs h w (w10.alloc (.cells (zl 0).toArray 30)) []) := H10.out.later ((Below.refl _ _).alloc (Nat.le_refl _) _)
    clear H10
    go_wp2_with (go_at_call 19; refine (num_any _ _).mono ?_; rintro e w0 ⟨rfl, hw0⟩; have hw1 := hw0.symm; clear hw0; subst hw1)
    refine (same_none _).mono ?_
    rintro e w12 ⟨rfl, b12⟩
    have H12 : Hid (Regs h w w12 []) := H11.out.later b12
    clear H11 b12
    go_wp2_with (go_at_call 19; refine (num_any _ _).mono ?_; rintro e w0 ⟨rfl, hw0⟩; have hw1 := hw0.symm; clear hw0; subst hw1)
    go_ret
    exact ⟨rfl, H12.out.1⟩
  · have f0 := H9.out.1.free 1 rfl
    have BB : Hid (Below h w (w9.setCell ⟨d, 1, none⟩ (.int .i64 (1 - (1 + (z : Int))))) ∧ Has (w9.setCell ⟨d, 1, none⟩ (.int .i64 (1 - (1 + (z : Int))))) g en1) := ⟨H9.out.base.1.setCell (p := ⟨d, 1, none⟩) (by have := HG.out; show h ≤ d; omega) _, H9.out.2.2.1.other (by omega) _ _⟩
    go_wp2_with fail
    refine (kput_no 2 g 1 (1 - (1 + (z : Int))) bB _ BB.out.2 (by decide +kernel) (by rw [kputB]; simp only [mayB, Bool.and_eq_false_iff, decide_eq_false_iff_not]; omega)).mono ?_
    rintro e w10 ⟨rfl, b10⟩
    have H10 : Hid (Regs h w w10 []) := ⟨BB.out.1.trans (b10.mono (Nat.le_trans (Nat.le_of_eq hh.symm) BB.out.1.size)), by have := BB.out.1.size; have := b10.size; omega⟩
    clear BB b10 H9 t0 t1 t2 t3 t4 t5 t6 t7 t8 t9 s0 s1 HG
    obtain ⟨q, hq⟩ : ∃ q, w10.heap.size = q := ⟨_, rfl⟩
    have H11 : Hid (Regs h w (w10.alloc (.cells (zl 0).toArray 30)) []) := H10.out.later ((Below.refl _ _).alloc (Nat.le_refl _) _)
    clear H10
    go_wp2_with (go_at_call 19; refine (num_any _ _).mono ?_; rintro e w0 ⟨rfl, hw0⟩; have hw1 := hw0.symm; clear hw0; subst hw1)
    refine (same_none _).mono ?_
    rintro e w12 ⟨rfl, b12⟩
    have H12 : Hid (Regs h w w12 []) := H11.out.later b12
    clear H11 b12
    go_wp2_with (go_at_call 19; refine (num_any _ _).mono ?_; rintro e w0 ⟨rfl, hw0⟩; have hw1 := hw0.symm; clear hw0; subst hw1)
    go_ret
    exact ⟨rfl, H12.out.1⟩
  · have f0 := H9.out.1.free 1 rfl
    have BB : Hid (Below h w (w9.setCell ⟨d, 1, none⟩ (.int .i64 (1048575 + (1 + (z : Int))))) ∧ Has (w9.setCell ⟨d, 1, none⟩ (.int .i64 (1048575 + (1 + (z : Int))))) g en1) := ⟨H9.out.base.1.setCell (p := ⟨d, 1, none⟩) (by have := HG.out; show h ≤ d; omega) _, H9.out.2.2.1.other (by omega) _ _⟩
    go_wp2_with fail
    refine (kput_no 2 g 1 (1048575 + (1 + (z : Int))) bB _ BB.out.2 (by decide +kernel) (by rw [kputB]; simp only [mayB, Bool.and_eq_false_iff, decide_eq_false_iff_not]; omega)).mono ?_
    rintro e w10 ⟨rfl, b10⟩
    have H10 : Hid (Regs h w w10 []) := ⟨BB.out.1.trans (b10.mono (Nat.le_trans (Nat.le_of_eq hh.symm) BB.out.1.size)), by have := BB.out.1.size; have := b10.size; omega⟩
    clear BB b10 H9 t0 t1 t2 t3 t4 t5 t6 t7 t8 t9 s0 s1 HG
    obtain ⟨q, hq⟩ : ∃ q, w10.heap.size = q := ⟨_, rfl⟩
    have H11 : Hid (Regs h w (w10.alloc (.cells (zl 0).toArray 30)) []) := H10.out.later ((Below.refl _ _).alloc (Nat.le_refl _) _)
    clear H10
    go_wp2_with (go_at_call 19; refine (num_any _ _).mono ?_; rintro e w0 ⟨rfl, hw0⟩; have hw1 := hw0.symm; clear hw0; subst hw1)
    refine (same_none _).mono ?_
    rintro e w12 ⟨rfl, b12⟩
    have H12 : Hid (Regs h w w12 []) := H11.out.later b12
    clear H11 b12
    go_wp2_with (go_at_call 19; refine (num_any _ _).mono ?_; rintro e w0 ⟨rfl, hw0⟩; have hw1 := hw0.symm; clear hw0; subst hw1)
    go_ret
    exact ⟨rfl, H12.out.1⟩
  · have f0 := H9.out.1.free 0 rfl
    have f1 := H9.out.1.free 1 rfl
    go_wp2_with fail
    refine (dot3_any _).mono ?_
    rintro e u9 ⟨rfl, b9⟩
    have H9' : Hid (Regs h w u9 [(d, [.int .i64 1, .int .i64 2]), (g + 1, kl 2 g), (g, en1)]) := H9.out.later b9
    clear H9 b9 t0 t1 t2 t3 t4 t5 t6 t7 t8 t9 s0 s1 f0 f1
    have H9 := H9'
    obtain ⟨t0, t1, t2, t3, t4, t5, t6, t7, t8, t9⟩ := H9.out.2.1.ten
    have s0 := H9.out.1.at 0 rfl
    have s1 := H9.out.1.at 1 rfl
    have f0 := H9.out.1.free 0 rfl
    have f1 := H9.out.1.free 1 rfl
    have BB : Hid (Below h w ((u9.setCell ⟨d, 0, none⟩ (.int .i64 0)).setCell ⟨d, 1, none⟩ (.int .i64 2)) ∧ Has ((u9.setCell ⟨d, 0, none⟩ (.int .i64 0)).setCell ⟨d, 1, none⟩ (.int .i64 2)) g en1) := ⟨(H9.out.base.1.setCell (p := ⟨d, 0, none⟩) (by have := HG.out; show h ≤ d; omega) _).setCell (p := ⟨d, 1, none⟩) (by have := HG.out; show h ≤ d; omega) _, (H9.out.2.2.1.other (by omega) _ _).other (by omega) _ _⟩
    clear H9'
    go_wp2_with fail
    refine (kput_no 2 g 0 2 bB _ BB.out.2 (by decide +kernel) (by decide +kernel)).mono ?_
    rintro e w10 ⟨rfl, b10⟩
    have H10 : Hid (Regs h w w10 []) := ⟨BB.out.1.trans (b10.mono (Nat.le_trans (Nat.le_of_eq hh.symm) BB.out.1.size)), by have := BB.out.1.size; have := b10.size; omega⟩
    clear BB b10 H9 t0 t1 t2 t3 t4 t5 t6 t7 t8 t9 s0 s1 HG
    obtain ⟨q, hq⟩ : ∃ q, w10.heap.size = q := ⟨_, rfl⟩
    have H11 : Hid (Regs h w (w10.alloc (.cells (zl 0).toArray 30)) []) := H10.out.later ((Below.refl _ _).alloc (Nat.le_refl _) _)
    clear H10
    go_wp2_with (go_at_call 19; refine (num_any _ _).mono ?_; rintro e w0 ⟨rfl, hw0⟩; have hw1 := hw0.symm; clear hw0; subst hw1)
    refine (same_none _).mono ?_
    rintro e w12 ⟨rfl, b12⟩
    have H12 : Hid (Regs h w w12 []) := H11.out.later b12
    clear H11 b12
    go_wp2_with (go_at_call 19; refine (num_any _ _).mono ?_; rintro e w0 ⟨rfl, hw0⟩; have hw1 := hw0.symm; clear hw0; subst hw1)
    go_ret
    exact ⟨rfl, H12.out.1⟩
  · obtain ⟨n2, hn2⟩ : ∃ n2 : Nat, n2 = 256 + (1 + z) := ⟨_, rfl⟩
    obtain ⟨Y, hY⟩ : ∃ Y : ByteArray, Y = ⟨(List.replicate n2 (0 : UInt8)).toArray⟩ := ⟨_, rfl⟩
    have hYs : Y.size = n2 := by rw [← size_list, hY]; simp
    have HY : Hid (Y = ⟨(List.replicate n2 (0 : UInt8)).toArray⟩ ∧ Y.size = n2 ∧ n2 = 256 + (1 + z)) := ⟨hY, hYs, hn2⟩
    clear hY hYs hn2 t0 t1 t2 t3 t4 t5 t6 t7 t8 t9 s0 s1
    go_wp2_with (at_make; (refine wpList_make_full _ rfl _ _ 68 rfl w9.heap.size 5 i0 (.int .u8 0) 1 Try.underlying68 hi0 hz0 hz1 .i64 .i64 (256 + (1 + (z : Int))) (256 + (1 + (z : Int))) n2 rfl rfl ?c1 ?c2 ?c3 ?c4 (Nat.le_refl _) ?_; (case c1 => have := HY.out.2.2; omega); (case c2 => have := HY.out.2.2; omega); (case c3 => rw [hz2]; have := HY.out.2.2; omega); (case c4 => unfold maxLen; have := HY.out.2.2; omega); intro w6 hown hgrow; have hstr := zeros_string hown; rw [← HY.out.1] at hstr; have BB : Hid (Regs h w w6 [(d, [.int .i64 1, .int .i64 2]), (g + 1, kl 2 g), (g, en1)]) := H9.out.later ((Below.refl _ _).grown hgrow (Nat.le_refl _) (by simp)); clear hown hgrow; obtain ⟨t0, t1, t2, t3, t4, t5, t6, t7, t8, t9⟩ := BB.out.2.1.ten; have s0 := BB.out.1.at 0 rfl; have s1 := BB.out.1.at 1 rfl))
    refine (kput_no 2 g 1 2 Y _ BB.out.2.2.1 (by have := HY.out.2.1; have := HY.out.2.2; unfold maxLen; omega) (by rw [kputB]; have := HY.out.2.1; have := HY.out.2.2; simp only [Bool.and_eq_false_iff, decide_eq_false_iff_not]; omega)).mono ?_
    rintro e w10 ⟨rfl, b10⟩
    have H10 : Hid (Regs h w w10 []) := ⟨(BB.out.later b10).base.1, (BB.out.later b10).base.2⟩
    clear BB b10 H9 t0 t1 t2 t3 t4 t5 t6 t7 t8 t9 s0 s1 HG hstr
    obtain ⟨q, hq⟩ : ∃ q, w10.heap.size = q := ⟨_, rfl⟩
    have H11 : Hid (Regs h w (w10.alloc (.cells (zl 0).toArray 30)) []) := H10.out.later ((Below.refl _ _).alloc (Nat.le_refl _) _)
    clear H10
    go_wp2_with (go_at_call 19; refine (num_any _ _).mono ?_; rintro e w0 ⟨rfl, hw0⟩; have hw1 := hw0.symm; clear hw0; subst hw1)
    refine (same_none _).mono ?_
    rintro e w12 ⟨rfl, b12⟩
    have H12 : Hid (Regs h w w12 []) := H11.out.later b12
    clear H11 b12
    go_wp2_with (go_at_call 19; refine (num_any _ _).mono ?_; rintro e w0 ⟨rfl, hw0⟩; have hw1 := hw0.symm; clear hw0; subst hw1)
    go_ret
    exact ⟨rfl, H12.out.1⟩

end Go.Proofs.Ytedgobdeoheaoaa.OrsetForms
