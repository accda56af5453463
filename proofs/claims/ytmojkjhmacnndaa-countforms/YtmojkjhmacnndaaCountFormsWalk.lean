/-
  The walk of the law CountForms: kinds, pairs and sums that may not be.
-/
import Derived.Test.YtmojkjhmacnndaaAwake8
import Derived.Test.YtmojkjhmacnndaaMasks
import Derived.OwnWalk
namespace Go.Proofs.Ytmojkjhmacnndaa.CountForms
open Go.RowKit
set_option linter.unusedVariables false
set_option linter.unusedSimpArgs false

theorem mod6 (a : Int) : ∃ k : Nat, k < 6 ∧ (IntKind.u64.wrap a).tmod 6 = (k : Int) := by
  have h1 : IntKind.u64.wrap a = a % 18446744073709551616 := by simp [IntKind.wrap, IntKind.bits, IntKind.signed]
  rw [h1]
  generalize hz : a % 18446744073709551616 = z
  have hz0 : 0 ≤ z := by omega
  rw [Int.tmod_eq_emod_of_nonneg hz0]
  exact ⟨(z % 6).toNat, by omega, by omega⟩

/-- A cell of a kind, a number and one place of Seen. -/
def fc (k X Y : Int) : Ce := ⟨k, false, 0, 0, ByteArray.empty, X, Y, [], [], [4]⟩
abbrev fl (k X Y : Int) (ao : Option Addr) (ca : Nat) : List Value := [.int .i64 k, .bool false, .int .i64 0, .int .i64 0, .string ⟨#[]⟩, .int .i64 X, .int .i64 Y, .slice none 0 0, .slice none 0 0, .slice ao 1 ca]
abbrev fv (k X Y : Int) (ao : Option Addr) (ca : Nat) : Value := .agg #[.int .i64 k, .bool false, .int .i64 0, .int .i64 0, .string ⟨#[]⟩, .int .i64 X, .int .i64 Y, .slice none 0 0, .slice none 0 0, .slice ao 1 ca]
abbrev four : List Value := flatI [4]

theorem four_new (w : World) (t : TypeId) : FRow (w.alloc (.cells #[.int .i64 4] t)) (some ⟨w.heap.size, 0, none⟩) four := fun _ => ⟨w.heap.size, 0, rfl, by simp, fun i u hu => by
  match i, hu with
  | 0, hu =>
    simp [four, flatI] at hu
    subst hu
    simp [World.cell?_alloc_at]
  | i + 1, hu => simp [four, flatI] at hu⟩

theorem FRow.alloc {w : World} {ao : Option Addr} {xs : List Value} (h : FRow w ao xs) (o : Obj) : FRow (w.alloc o) ao xs := h.later ((Below.refl _ _).alloc (Nat.le_refl _) _)

theorem cadd_four {X Y x y : Int} (X' Y' : Int) (ao : Option Addr) (ca : Nat) (h : addB X Y x y = true) (hx : X' = X + x) (hy : Y' = Y + y) (w : World) (hr : FRow w ao four) :
    Calls Try.prog 7 #[fv 1 X Y ao ca, pv x y] w fun e w' => ∃ so sc, e = .returned (.tuple #[fv 1 X' Y' so sc, .int .i64 0]) ∧ FOwn w.heap.size w' so four ∧ Below w.heap.size w w' := by
  refine Calls.mono (cadd_yes (fc 1 X Y) ⟨none, 0, none, 0, ao, ca⟩ x y w ⟨FRow.nil _ _, FRow.nil _ _, hr⟩ (fit_bare rfl rfl (by simp [fc]) (by simp [fc])) (by simp [cntB, fc, h])) ?_
  rintro e w1 ⟨⟨eo, ec, lo, lc, so, sc⟩, rfl, ho, hn, b⟩
  obtain ⟨a, a'⟩ := hn.1 rfl
  obtain ⟨c, c'⟩ := hn.2.1 rfl
  simp only at a a' c c'
  subst a a' c c' hx hy
  exact ⟨so, sc, rfl, ho.2.2, b⟩

theorem cadd_four_no (k X Y x y : Int) (ao : Option Addr) (ca : Nat) (w : World) (hb : cntB (fc k X Y) x y = false) :
    Calls Try.prog 7 #[fv k X Y ao ca, pv x y] w fun e w' => e = .returned (.tuple #[nv 0 0 0, .int .i64 800]) ∧ Below w.heap.size w w' :=
  Calls.mono (cadd_no (fc k X Y) ⟨none, 0, none, 0, ao, ca⟩ x y w hb) fun e w' h => h

theorem cnt_fc (k X Y x y : Int) : cntB (fc k X Y) x y = (decide (k = 1) && addB X Y x y) := rfl

/-- What the law keeps of the first answer. -/
def Fo (h : Nat) (w W : World) (k : Nat) (X Y : Int) (so : Option Addr) (sc : Nat) : Prop := Below h w W ∧ h ≤ W.heap.size ∧ Has W k (fl 1 X Y so sc) ∧ FRow W so four

theorem Fo.later {h : Nat} {w W W2 : World} {k : Nat} {X Y : Int} {so : Option Addr} {sc : Nat} (H : Fo h w W k X Y so sc) (hb : Below W.heap.size W W2) : Fo h w W2 k X Y so sc :=
  ⟨H.1.trans (hb.mono H.2.1), Nat.le_trans H.2.1 hb.size, H.2.2.1.later hb, H.2.2.2.later hb⟩

theorem fo_new {h B : Nat} {w w2 : World} {k : Nat} {X Y : Int} {so : Option Addr} {sc : Nat} (H : Below h w w2) (hz : h ≤ w2.heap.size) (ho : FOwn B w2 so four) (hk : w2.heap.size = k) {b o : Nat} (v : Value) (t : TypeId) (h1 : h ≤ b) (h2 : b < B) : Fo h w ((w2.setCell ⟨b, o, none⟩ v).alloc (.cells (fl 1 X Y so sc).toArray t)) k X Y so sc := by
  subst hk
  refine ⟨(H.setCell (p := ⟨b, o, none⟩) h1 _).alloc (by simpa using hz) _, by simp; omega, ?_, (ho.off h2 o v).row.later ((Below.refl _ _).alloc (Nat.le_refl _) _)⟩
  have := has_new (w2.setCell ⟨b, o, none⟩ v) (fl 1 X Y so sc) t
  simpa using this

set_option maxHeartbeats 4000000 in
set_option maxRecDepth 100000 in
theorem walk (which x : Int) (w : World) (_ : (Lit.int .i64 which).wf = true) (_ : (Lit.int .i64 x).wf = true) :
    Calls Try.prog 5 #[.int .i64 which, .int .i64 x] w fun e w' => e = .returned (.bool true) ∧ Below w.heap.size w w' := by
  obtain ⟨k, hk, ek⟩ := mod6 which
  obtain ⟨z, hz, ez⟩ : ∃ z : Nat, z < 1024 ∧ bits .and .i64 x 1023 = (z : Int) := and_mask x 10 (by omega)
  obtain ⟨h, hh⟩ : ∃ h, w.heap.size = h := ⟨_, rfl⟩
  rw [hh]
  go_enter Try.func5, Try.ntmps5
  go_wp2_with fail
  refine (awake8_any _).mono ?_
  rintro e w1 ⟨rfl, b1⟩
  have H1 : Hid (Regs h w w1 []) := ⟨hh ▸ b1, by have := b1.size; omega⟩
  obtain ⟨g, hg⟩ : ∃ g, w1.heap.size = g := ⟨_, rfl⟩
  have HG : Hid (h ≤ g) := by have := H1.out.2; show h ≤ g; omega
  have HF : Hid (FRow (w1.alloc (.cells #[.int .i64 4] 3)) (some ⟨g, 0, none⟩) four) := hg ▸ four_new w1 3
  have H2 : Hid (Regs h w (((w1.alloc (.cells #[.int .i64 4] 3)).alloc (.cells (fl 1 4503599627370496 (-4503599627370496) (some ⟨g, 0, none⟩) 1).toArray 30)).alloc (.cells #[.int .i64 (-(1 + (z : Int))), .int .i64 (1 + (z : Int))] 25)) [(g + 1 + 1, [.int .i64 (-(1 + (z : Int))), .int .i64 (1 + (z : Int))]), (g + 1, fl 1 4503599627370496 (-4503599627370496) (some ⟨g, 0, none⟩) 1)]) :=
    Regs.push (Regs.push (H1.out.later ((Below.refl _ _).alloc (Nat.le_refl _) _)) (by simp [hg]) (fl 1 4503599627370496 (-4503599627370496) (some ⟨g, 0, none⟩) 1) _) (by simp [hg]) [.int .i64 (-(1 + (z : Int))), .int .i64 (1 + (z : Int))] _
  clear b1 H1
  go_wp2_with fail
  refine (cadd_four (4503599627370496 - (1 + (z : Int))) (1 + (z : Int) - 4503599627370496) (some ⟨g, 0, none⟩) 1 (by simp [addB, pairB, partB]; omega) (by omega) (by omega) _ (FRow.alloc (FRow.alloc HF.out _) _)).mono ?_
  rintro e w5 ⟨so, sc, rfl, o5, b5⟩
  have H5 : Hid (Regs h w w5 [(g + 1 + 1, [.int .i64 (-(1 + (z : Int))), .int .i64 (1 + (z : Int))]), (g + 1, fl 1 4503599627370496 (-4503599627370496) (some ⟨g, 0, none⟩) 1)]) := H2.out.later b5
  have HO : Hid (FOwn (g + 3) w5 so four) := o5.mono H2.out.1.1
  clear b5 H2 HF o5 hg
  obtain ⟨t0, t1, t2, t3, t4, t5, t6, t7, t8, t9⟩ := H5.out.2.1.ten
  have s0 := H5.out.1.at 0 rfl
  have s1 := H5.out.1.at 1 rfl
  obtain ⟨q, hq⟩ : ∃ q, w5.heap.size = q := ⟨_, rfl⟩
  have l1 : g + 1 < q := by have := H5.out.2.1.1; omega
  have l2 : g + 1 + 1 < q := by have := H5.out.1.1; omega
  have hzz : z < 1024 := hz
  have h6 : k = 0 ∨ k = 1 ∨ k = 2 ∨ k = 3 ∨ k = 4 ∨ k = 5 := by omega
  clear hk
  rcases h6 with rfl | rfl | rfl | rfl | rfl | rfl
  · have f0 := H5.out.2.1.free 0 rfl
    have BB : Hid (Fo h w ((w5.setCell ⟨g + 1, 0, none⟩ (.int .i64 (1 + (1 + (z : Int))))).alloc (.cells (fl 1 (4503599627370496 - (1 + (z : Int))) (1 + (z : Int) - 4503599627370496) so sc).toArray 30)) q (4503599627370496 - (1 + (z : Int))) (1 + (z : Int) - 4503599627370496) so sc) := fo_new H5.out.base.1 H5.out.base.2 HO.out hq _ _ (by have := HG.out; omega) (by omega)
    go_wp2_with fail
    refine (cadd_four_no (1 + (1 + (z : Int))) 4503599627370496 (-4503599627370496) (-(1 + (z : Int))) (1 + (z : Int)) (some ⟨g, 0, none⟩) 1 _ (by rw [cnt_fc]; simp only [addB, pairB, partB, Bool.and_eq_false_iff, decide_eq_false_iff_not]; omega)).mono ?_
    rintro e w6 ⟨rfl, b6⟩
    have F6 : Hid (Fo h w w6 q (4503599627370496 - (1 + (z : Int))) (1 + (z : Int) - 4503599627370496) so sc) := BB.out.later b6
    clear BB b6 H5 HO hq t0 t1 t2 t3 t4 t5 t6 t7 t8 t9 s0 s1 f0 l1 l2 HG
    obtain ⟨m, hm⟩ : ∃ m, w6.heap.size = m := ⟨_, rfl⟩
    have F7 : Hid (Fo h w (w6.alloc (.cells (nl 0 0 0).toArray 30)) q (4503599627370496 - (1 + (z : Int))) (1 + (z : Int) - 4503599627370496) so sc) := F6.out.later ((Below.refl _ _).alloc (Nat.le_refl _) _)
    have HN : Hid (Has (w6.alloc (.cells (nl 0 0 0).toArray 30)) m (nl 0 0 0)) := hm ▸ has_new _ _ _
    have HZ : Hid ((w6.alloc (.cells (nl 0 0 0).toArray 30)).heap.size = m + 1) := by show _ = _; simp [hm]
    have x5 := F6.out.2.2.1.at 5 rfl
    have x6 := F6.out.2.2.1.at 6 rfl
    have x9 := F6.out.2.2.1.at 9 rfl
    have l3 : q < m := by have := F6.out.2.2.1.1; omega
    have four1 : Hid (FRow ((w6.alloc (.cells (nl 0 0 0).toArray 30)).alloc (.cells #[.int .i64 4] 3)) (some ⟨m + 1, 0, none⟩) four) := HZ.out ▸ four_new (w6.alloc (.cells (nl 0 0 0).toArray 30)) 3
    go_wp2_with (go_at_call 10; refine (num_any _ _).mono ?_; rintro e w0 ⟨rfl, rfl⟩)
    refine (sameInts_any so (some ⟨m + 1, 0, none⟩) sc 1 [4] _ (FRow.alloc F7.out.2.2.2 _) four1.out (by simp [maxLen])).mono ?_
    rintro e w7 ⟨rfl, b7⟩
    have hal : Below (w6.alloc (.cells (nl 0 0 0).toArray 30)).heap.size (w6.alloc (.cells (nl 0 0 0).toArray 30)) ((w6.alloc (.cells (nl 0 0 0).toArray 30)).alloc (.cells #[.int .i64 4] 3)) := (Below.refl _ _).alloc (Nat.le_refl _) _
    have B8 : Hid (Below h w w7 ∧ h ≤ w7.heap.size ∧ Has w7 m (nl 0 0 0)) := ⟨((F7.out.later hal).later b7).1, ((F7.out.later hal).later b7).2.1, (HN.out.later hal).later b7⟩
    clear b7 hal F6 F7 HN HZ four1 hm x5 x6 x9 l3
    obtain ⟨r0, r1, r2, r3, r4, r5, r6, r7, r8, r9⟩ := B8.out.2.2.ten
    go_wp2_with fail
    refine (same_num 0 0 0 _).mono ?_
    rintro e w8 ⟨rfl, b8⟩
    have B9 : Below h w w8 := B8.out.1.trans (b8.mono B8.out.2.1)
    go_wp2_with (go_at_call 10; refine (num_any _ _).mono ?_; rintro e w0 ⟨rfl, rfl⟩)
    go_ret
    exact ⟨rfl, B9⟩
  · have f0 := H5.out.2.1.free 0 rfl
    have BB : Hid (Fo h w ((w5.setCell ⟨g + 1, 0, none⟩ (.int .i64 (0))).alloc (.cells (fl 1 (4503599627370496 - (1 + (z : Int))) (1 + (z : Int) - 4503599627370496) so sc).toArray 30)) q (4503599627370496 - (1 + (z : Int))) (1 + (z : Int) - 4503599627370496) so sc) := fo_new H5.out.base.1 H5.out.base.2 HO.out hq _ _ (by have := HG.out; omega) (by omega)
    go_wp2_with fail
    refine (cadd_four_no 0 4503599627370496 (-4503599627370496) (-(1 + (z : Int))) (1 + (z : Int)) (some ⟨g, 0, none⟩) 1 _ (by rw [cnt_fc]; simp only [addB, pairB, partB, Bool.and_eq_false_iff, decide_eq_false_iff_not]; omega)).mono ?_
    rintro e w6 ⟨rfl, b6⟩
    have F6 : Hid (Fo h w w6 q (4503599627370496 - (1 + (z : Int))) (1 + (z : Int) - 4503599627370496) so sc) := BB.out.later b6
    clear BB b6 H5 HO hq t0 t1 t2 t3 t4 t5 t6 t7 t8 t9 s0 s1 f0 l1 l2 HG
    obtain ⟨m, hm⟩ : ∃ m, w6.heap.size = m := ⟨_, rfl⟩
    have F7 : Hid (Fo h w (w6.alloc (.cells (nl 0 0 0).toArray 30)) q (4503599627370496 - (1 + (z : Int))) (1 + (z : Int) - 4503599627370496) so sc) := F6.out.later ((Below.refl _ _).alloc (Nat.le_refl _) _)
    have HN : Hid (Has (w6.alloc (.cells (nl 0 0 0).toArray 30)) m (nl 0 0 0)) := hm ▸ has_new _ _ _
    have HZ : Hid ((w6.alloc (.cells (nl 0 0 0).toArray 30)).heap.size = m + 1) := by show _ = _; simp [hm]
    have x5 := F6.out.2.2.1.at 5 rfl
    have x6 := F6.out.2.2.1.at 6 rfl
    have x9 := F6.out.2.2.1.at 9 rfl
    have l3 : q < m := by have := F6.out.2.2.1.1; omega
    have four1 : Hid (FRow ((w6.alloc (.cells (nl 0 0 0).toArray 30)).alloc (.cells #[.int .i64 4] 3)) (some ⟨m + 1, 0, none⟩) four) := HZ.out ▸ four_new (w6.alloc (.cells (nl 0 0 0).toArray 30)) 3
    go_wp2_with (go_at_call 10; refine (num_any _ _).mono ?_; rintro e w0 ⟨rfl, rfl⟩)
    refine (sameInts_any so (some ⟨m + 1, 0, none⟩) sc 1 [4] _ (FRow.alloc F7.out.2.2.2 _) four1.out (by simp [maxLen])).mono ?_
    rintro e w7 ⟨rfl, b7⟩
    have hal : Below (w6.alloc (.cells (nl 0 0 0).toArray 30)).heap.size (w6.alloc (.cells (nl 0 0 0).toArray 30)) ((w6.alloc (.cells (nl 0 0 0).toArray 30)).alloc (.cells #[.int .i64 4] 3)) := (Below.refl _ _).alloc (Nat.le_refl _) _
    have B8 : Hid (Below h w w7 ∧ h ≤ w7.heap.size ∧ Has w7 m (nl 0 0 0)) := ⟨((F7.out.later hal).later b7).1, ((F7.out.later hal).later b7).2.1, (HN.out.later hal).later b7⟩
    clear b7 hal F6 F7 HN HZ four1 hm x5 x6 x9 l3
    obtain ⟨r0, r1, r2, r3, r4, r5, r6, r7, r8, r9⟩ := B8.out.2.2.ten
    go_wp2_with fail
    refine (same_num 0 0 0 _).mono ?_
    rintro e w8 ⟨rfl, b8⟩
    have B9 : Below h w w8 := B8.out.1.trans (b8.mono B8.out.2.1)
    go_wp2_with (go_at_call 10; refine (num_any _ _).mono ?_; rintro e w0 ⟨rfl, rfl⟩)
    go_ret
    exact ⟨rfl, B9⟩
  · have f0 := H5.out.1.free 0 rfl
    have BB : Hid (Fo h w ((w5.setCell ⟨g + 1 + 1, 0, none⟩ (.int .i64 ((1 + (z : Int))))).alloc (.cells (fl 1 (4503599627370496 - (1 + (z : Int))) (1 + (z : Int) - 4503599627370496) so sc).toArray 30)) q (4503599627370496 - (1 + (z : Int))) (1 + (z : Int) - 4503599627370496) so sc) := fo_new H5.out.base.1 H5.out.base.2 HO.out hq _ _ (by have := HG.out; omega) (by omega)
    go_wp2_with fail
    refine (cadd_four_no 1 4503599627370496 (-4503599627370496) (1 + (z : Int)) (1 + (z : Int)) (some ⟨g, 0, none⟩) 1 _ (by rw [cnt_fc]; simp only [addB, pairB, partB, Bool.and_eq_false_iff, decide_eq_false_iff_not]; omega)).mono ?_
    rintro e w6 ⟨rfl, b6⟩
    have F6 : Hid (Fo h w w6 q (4503599627370496 - (1 + (z : Int))) (1 + (z : Int) - 4503599627370496) so sc) := BB.out.later b6
    clear BB b6 H5 HO hq t0 t1 t2 t3 t4 t5 t6 t7 t8 t9 s0 s1 f0 l1 l2 HG
    obtain ⟨m, hm⟩ : ∃ m, w6.heap.size = m := ⟨_, rfl⟩
    have F7 : Hid (Fo h w (w6.alloc (.cells (nl 0 0 0).toArray 30)) q (4503599627370496 - (1 + (z : Int))) (1 + (z : Int) - 4503599627370496) so sc) := F6.out.later ((Below.refl _ _).alloc (Nat.le_refl _) _)
    have HN : Hid (Has (w6.alloc (.cells (nl 0 0 0).toArray 30)) m (nl 0 0 0)) := hm ▸ has_new _ _ _
    have HZ : Hid ((w6.alloc (.cells (nl 0 0 0).toArray 30)).heap.size = m + 1) := by show _ = _; simp [hm]
    have x5 := F6.out.2.2.1.at 5 rfl
    have x6 := F6.out.2.2.1.at 6 rfl
    have x9 := F6.out.2.2.1.at 9 rfl
    have l3 : q < m := by have := F6.out.2.2.1.1; omega
    have four1 : Hid (FRow ((w6.alloc (.cells (nl 0 0 0).toArray 30)).alloc (.cells #[.int .i64 4] 3)) (some ⟨m + 1, 0, none⟩) four) := HZ.out ▸ four_new (w6.alloc (.cells (nl 0 0 0).toArray 30)) 3
    go_wp2_with (go_at_call 10; refine (num_any _ _).mono ?_; rintro e w0 ⟨rfl, rfl⟩)
    refine (sameInts_any so (some ⟨m + 1, 0, none⟩) sc 1 [4] _ (FRow.alloc F7.out.2.2.2 _) four1.out (by simp [maxLen])).mono ?_
    rintro e w7 ⟨rfl, b7⟩
    have hal : Below (w6.alloc (.cells (nl 0 0 0).toArray 30)).heap.size (w6.alloc (.cells (nl 0 0 0).toArray 30)) ((w6.alloc (.cells (nl 0 0 0).toArray 30)).alloc (.cells #[.int .i64 4] 3)) := (Below.refl _ _).alloc (Nat.le_refl _) _
    have B8 : Hid (Below h w w7 ∧ h ≤ w7.heap.size ∧ Has w7 m (nl 0 0 0)) := ⟨((F7.out.later hal).later b7).1, ((F7.out.later hal).later b7).2.1, (HN.out.later hal).later b7⟩
    clear b7 hal F6 F7 HN HZ four1 hm x5 x6 x9 l3
    obtain ⟨r0, r1, r2, r3, r4, r5, r6, r7, r8, r9⟩ := B8.out.2.2.ten
    go_wp2_with fail
    refine (same_num 0 0 0 _).mono ?_
    rintro e w8 ⟨rfl, b8⟩
    have B9 : Below h w w8 := B8.out.1.trans (b8.mono B8.out.2.1)
    go_wp2_with (go_at_call 10; refine (num_any _ _).mono ?_; rintro e w0 ⟨rfl, rfl⟩)
    go_ret
    exact ⟨rfl, B9⟩
  · have f0 := H5.out.1.free 1 rfl
    have BB : Hid (Fo h w ((w5.setCell ⟨g + 1 + 1, 1, none⟩ (.int .i64 (-(1 + (z : Int))))).alloc (.cells (fl 1 (4503599627370496 - (1 + (z : Int))) (1 + (z : Int) - 4503599627370496) so sc).toArray 30)) q (4503599627370496 - (1 + (z : Int))) (1 + (z : Int) - 4503599627370496) so sc) := fo_new H5.out.base.1 H5.out.base.2 HO.out hq _ _ (by have := HG.out; omega) (by omega)
    go_wp2_with fail
    refine (cadd_four_no 1 4503599627370496 (-4503599627370496) (-(1 + (z : Int))) (-(1 + (z : Int))) (some ⟨g, 0, none⟩) 1 _ (by rw [cnt_fc]; simp only [addB, pairB, partB, Bool.and_eq_false_iff, decide_eq_false_iff_not]; omega)).mono ?_
    rintro e w6 ⟨rfl, b6⟩
    have F6 : Hid (Fo h w w6 q (4503599627370496 - (1 + (z : Int))) (1 + (z : Int) - 4503599627370496) so sc) := BB.out.later b6
    clear BB b6 H5 HO hq t0 t1 t2 t3 t4 t5 t6 t7 t8 t9 s0 s1 f0 l1 l2 HG
    obtain ⟨m, hm⟩ : ∃ m, w6.heap.size = m := ⟨_, rfl⟩
    have F7 : Hid (Fo h w (w6.alloc (.cells (nl 0 0 0).toArray 30)) q (4503599627370496 - (1 + (z : Int))) (1 + (z : Int) - 4503599627370496) so sc) := F6.out.later ((Below.refl _ _).alloc (Nat.le_refl _) _)
    have HN : Hid (Has (w6.alloc (.cells (nl 0 0 0).toArray 30)) m (nl 0 0 0)) := hm ▸ has_new _ _ _
    have HZ : Hid ((w6.alloc (.cells (nl 0 0 0).toArray 30)).heap.size = m + 1) := by show _ = _; simp [hm]
    have x5 := F6.out.2.2.1.at 5 rfl
    have x6 := F6.out.2.2.1.at 6 rfl
    have x9 := F6.out.2.2.1.at 9 rfl
    have l3 : q < m := by have := F6.out.2.2.1.1; omega
    have four1 : Hid (FRow ((w6.alloc (.cells (nl 0 0 0).toArray 30)).alloc (.cells #[.int .i64 4] 3)) (some ⟨m + 1, 0, none⟩) four) := HZ.out ▸ four_new (w6.alloc (.cells (nl 0 0 0).toArray 30)) 3
    go_wp2_with (go_at_call 10; refine (num_any _ _).mono ?_; rintro e w0 ⟨rfl, rfl⟩)
    refine (sameInts_any so (some ⟨m + 1, 0, none⟩) sc 1 [4] _ (FRow.alloc F7.out.2.2.2 _) four1.out (by simp [maxLen])).mono ?_
    rintro e w7 ⟨rfl, b7⟩
    have hal : Below (w6.alloc (.cells (nl 0 0 0).toArray 30)).heap.size (w6.alloc (.cells (nl 0 0 0).toArray 30)) ((w6.alloc (.cells (nl 0 0 0).toArray 30)).alloc (.cells #[.int .i64 4] 3)) := (Below.refl _ _).alloc (Nat.le_refl _) _
    have B8 : Hid (Below h w w7 ∧ h ≤ w7.heap.size ∧ Has w7 m (nl 0 0 0)) := ⟨((F7.out.later hal).later b7).1, ((F7.out.later hal).later b7).2.1, (HN.out.later hal).later b7⟩
    clear b7 hal F6 F7 HN HZ four1 hm x5 x6 x9 l3
    obtain ⟨r0, r1, r2, r3, r4, r5, r6, r7, r8, r9⟩ := B8.out.2.2.ten
    go_wp2_with fail
    refine (same_num 0 0 0 _).mono ?_
    rintro e w8 ⟨rfl, b8⟩
    have B9 : Below h w w8 := B8.out.1.trans (b8.mono B8.out.2.1)
    go_wp2_with (go_at_call 10; refine (num_any _ _).mono ?_; rintro e w0 ⟨rfl, rfl⟩)
    go_ret
    exact ⟨rfl, B9⟩
  · have f0 := H5.out.1.free 0 rfl
    have BB : Hid (Fo h w ((w5.setCell ⟨g + 1 + 1, 0, none⟩ (.int .i64 (-4503599627370496 - (1 + (z : Int))))).alloc (.cells (fl 1 (4503599627370496 - (1 + (z : Int))) (1 + (z : Int) - 4503599627370496) so sc).toArray 30)) q (4503599627370496 - (1 + (z : Int))) (1 + (z : Int) - 4503599627370496) so sc) := fo_new H5.out.base.1 H5.out.base.2 HO.out hq _ _ (by have := HG.out; omega) (by omega)
    go_wp2_with fail
    refine (cadd_four_no 1 4503599627370496 (-4503599627370496) (-4503599627370496 - (1 + (z : Int))) (1 + (z : Int)) (some ⟨g, 0, none⟩) 1 _ (by rw [cnt_fc]; simp only [addB, pairB, partB, Bool.and_eq_false_iff, decide_eq_false_iff_not]; omega)).mono ?_
    rintro e w6 ⟨rfl, b6⟩
    have F6 : Hid (Fo h w w6 q (4503599627370496 - (1 + (z : Int))) (1 + (z : Int) - 4503599627370496) so sc) := BB.out.later b6
    clear BB b6 H5 HO hq t0 t1 t2 t3 t4 t5 t6 t7 t8 t9 s0 s1 f0 l1 l2 HG
    obtain ⟨m, hm⟩ : ∃ m, w6.heap.size = m := ⟨_, rfl⟩
    have F7 : Hid (Fo h w (w6.alloc (.cells (nl 0 0 0).toArray 30)) q (4503599627370496 - (1 + (z : Int))) (1 + (z : Int) - 4503599627370496) so sc) := F6.out.later ((Below.refl _ _).alloc (Nat.le_refl _) _)
    have HN : Hid (Has (w6.alloc (.cells (nl 0 0 0).toArray 30)) m (nl 0 0 0)) := hm ▸ has_new _ _ _
    have HZ : Hid ((w6.alloc (.cells (nl 0 0 0).toArray 30)).heap.size = m + 1) := by show _ = _; simp [hm]
    have x5 := F6.out.2.2.1.at 5 rfl
    have x6 := F6.out.2.2.1.at 6 rfl
    have x9 := F6.out.2.2.1.at 9 rfl
    have l3 : q < m := by have := F6.out.2.2.1.1; omega
    have four1 : Hid (FRow ((w6.alloc (.cells (nl 0 0 0).toArray 30)).alloc (.cells #[.int .i64 4] 3)) (some ⟨m + 1, 0, none⟩) four) := HZ.out ▸ four_new (w6.alloc (.cells (nl 0 0 0).toArray 30)) 3
    go_wp2_with (go_at_call 10; refine (num_any _ _).mono ?_; rintro e w0 ⟨rfl, rfl⟩)
    refine (sameInts_any so (some ⟨m + 1, 0, none⟩) sc 1 [4] _ (FRow.alloc F7.out.2.2.2 _) four1.out (by simp [maxLen])).mono ?_
    rintro e w7 ⟨rfl, b7⟩
    have hal : Below (w6.alloc (.cells (nl 0 0 0).toArray 30)).heap.size (w6.alloc (.cells (nl 0 0 0).toArray 30)) ((w6.alloc (.cells (nl 0 0 0).toArray 30)).alloc (.cells #[.int .i64 4] 3)) := (Below.refl _ _).alloc (Nat.le_refl _) _
    have B8 : Hid (Below h w w7 ∧ h ≤ w7.heap.size ∧ Has w7 m (nl 0 0 0)) := ⟨((F7.out.later hal).later b7).1, ((F7.out.later hal).later b7).2.1, (HN.out.later hal).later b7⟩
    clear b7 hal F6 F7 HN HZ four1 hm x5 x6 x9 l3
    obtain ⟨r0, r1, r2, r3, r4, r5, r6, r7, r8, r9⟩ := B8.out.2.2.ten
    go_wp2_with fail
    refine (same_num 0 0 0 _).mono ?_
    rintro e w8 ⟨rfl, b8⟩
    have B9 : Below h w w8 := B8.out.1.trans (b8.mono B8.out.2.1)
    go_wp2_with (go_at_call 10; refine (num_any _ _).mono ?_; rintro e w0 ⟨rfl, rfl⟩)
    go_ret
    exact ⟨rfl, B9⟩
  · have f0 := H5.out.2.1.free 5 rfl
    have BB : Hid (Fo h w ((w5.setCell ⟨g + 1, 5, none⟩ (.int .i64 (4503599627370496 + (1 + (z : Int))))).alloc (.cells (fl 1 (4503599627370496 - (1 + (z : Int))) (1 + (z : Int) - 4503599627370496) so sc).toArray 30)) q (4503599627370496 - (1 + (z : Int))) (1 + (z : Int) - 4503599627370496) so sc) := fo_new H5.out.base.1 H5.out.base.2 HO.out hq _ _ (by have := HG.out; omega) (by omega)
    go_wp2_with fail
    refine (cadd_four_no 1 (4503599627370496 + (1 + (z : Int))) (-4503599627370496) (-(1 + (z : Int))) (1 + (z : Int)) (some ⟨g, 0, none⟩) 1 _ (by rw [cnt_fc]; simp only [addB, pairB, partB, Bool.and_eq_false_iff, decide_eq_false_iff_not]; omega)).mono ?_
    rintro e w6 ⟨rfl, b6⟩
    have F6 : Hid (Fo h w w6 q (4503599627370496 - (1 + (z : Int))) (1 + (z : Int) - 4503599627370496) so sc) := BB.out.later b6
    clear BB b6 H5 HO hq t0 t1 t2 t3 t4 t5 t6 t7 t8 t9 s0 s1 f0 l1 l2 HG
    obtain ⟨m, hm⟩ : ∃ m, w6.heap.size = m := ⟨_, rfl⟩
    have F7 : Hid (Fo h w (w6.alloc (.cells (nl 0 0 0).toArray 30)) q (4503599627370496 - (1 + (z : Int))) (1 + (z : Int) - 4503599627370496) so sc) := F6.out.later ((Below.refl _ _).alloc (Nat.le_refl _) _)
    have HN : Hid (Has (w6.alloc (.cells (nl 0 0 0).toArray 30)) m (nl 0 0 0)) := hm ▸ has_new _ _ _
    have HZ : Hid ((w6.alloc (.cells (nl 0 0 0).toArray 30)).heap.size = m + 1) := by show _ = _; simp [hm]
    have x5 := F6.out.2.2.1.at 5 rfl
    have x6 := F6.out.2.2.1.at 6 rfl
    have x9 := F6.out.2.2.1.at 9 rfl
    have l3 : q < m := by have := F6.out.2.2.1.1; omega
    have four1 : Hid (FRow ((w6.alloc (.cells (nl 0 0 0).toArray 30)).alloc (.cells #[.int .i64 4] 3)) (some ⟨m + 1, 0, none⟩) four) := HZ.out ▸ four_new (w6.alloc (.cells (nl 0 0 0).toArray 30)) 3
    go_wp2_with (go_at_call 10; refine (num_any _ _).mono ?_; rintro e w0 ⟨rfl, rfl⟩)
    refine (sameInts_any so (some ⟨m + 1, 0, none⟩) sc 1 [4] _ (FRow.alloc F7.out.2.2.2 _) four1.out (by simp [maxLen])).mono ?_
    rintro e w7 ⟨rfl, b7⟩
    have hal : Below (w6.alloc (.cells (nl 0 0 0).toArray 30)).heap.size (w6.alloc (.cells (nl 0 0 0).toArray 30)) ((w6.alloc (.cells (nl 0 0 0).toArray 30)).alloc (.cells #[.int .i64 4] 3)) := (Below.refl _ _).alloc (Nat.le_refl _) _
    have B8 : Hid (Below h w w7 ∧ h ≤ w7.heap.size ∧ Has w7 m (nl 0 0 0)) := ⟨((F7.out.later hal).later b7).1, ((F7.out.later hal).later b7).2.1, (HN.out.later hal).later b7⟩
    clear b7 hal F6 F7 HN HZ four1 hm x5 x6 x9 l3
    obtain ⟨r0, r1, r2, r3, r4, r5, r6, r7, r8, r9⟩ := B8.out.2.2.ten
    go_wp2_with fail
    refine (same_num 0 0 0 _).mono ?_
    rintro e w8 ⟨rfl, b8⟩
    have B9 : Below h w w8 := B8.out.1.trans (b8.mono B8.out.2.1)
    go_wp2_with (go_at_call 10; refine (num_any _ _).mono ?_; rintro e w0 ⟨rfl, rfl⟩)
    go_ret
    exact ⟨rfl, B9⟩

end Go.Proofs.Ytmojkjhmacnndaa.CountForms
