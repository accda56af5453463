/-
  Package cell's Apply, whatever comes.
-/
import Derived.Test.YtgkddimijmnpcaaGreatDoorZAppA12
import Derived.Test.YtgkddimijmnpcaaGreatDoorZAppB12
import Derived.Test.YtgkddimijmnpcaaGreatDoorZPack4
import Derived.Test.YtgkddimijmnpcaaGreatDoorZPack1
import Derived.Test.YtgkddimijmnpcaaGreatDoorZIntRows
import Derived.Test.YtgkddimijmnpcaaGreatDoorZPack5
import Derived.Test.YtgkddimijmnpcaaGreatDoorZOpOpen11
namespace Go.Proofs.YtgkddimijmnpcaaGreatDoor
open Go.RowKit Go.Shelf
set_option linter.unusedVariables false
set_option linter.unusedSimpArgs false

/-- A cell that may be has the list of its Kind alone. -/
theorem lone_of {c : Ce} {n : Int} (h : cmayB c n = true) : (c.kind = 0 ∨ c.kind = 1 → c.ents = [] ∧ c.elems = []) ∧ (c.kind = 2 → c.elems = []) ∧ (c.kind = 3 → c.ents = []) := by
  unfold cmayB at h
  rw [Bool.and_eq_true] at h
  have h2 := h.2
  have z1 : entZ c = true → c.ents = [] := fun hz => List.eq_nil_of_length_eq_zero (by unfold entZ at hz; simpa using hz)
  have z2 : elmZ c = true → c.elems = [] := fun hz => List.eq_nil_of_length_eq_zero (by unfold elmZ at hz; simpa using hz)
  refine ⟨fun hk => ?_, fun hk => ?_, fun hk => ?_⟩
  · rcases hk with hk | hk
    · rw [if_pos hk] at h2
      simp only [Bool.and_eq_true] at h2
      exact ⟨z1 h2.2.1, z2 h2.2.2.1⟩
    · rw [if_neg (by omega), if_pos hk] at h2
      simp only [Bool.and_eq_true] at h2
      exact ⟨z1 h2.2.1, z2 h2.2.2.1⟩
  · rw [if_neg (by omega), if_neg (by omega), if_pos hk] at h2
    simp only [Bool.and_eq_true] at h2
    exact z2 h2.2.2.1
  · rw [if_neg (by omega), if_neg (by omega), if_neg (by omega), if_pos hk] at h2
    simp only [Bool.and_eq_true] at h2
    exact z1 h2.2.2.1

theorem app_any (c : Ce) (p : Pl) (o : O14) (q : Pq) (n : Int) (w : World) (hr : CRow w c p) (hf : Fit c) (hwf : Wf5 c) (ho : ORow w o q) (hs : Siz o) :
    Calls Tryz.prog 11 #[ceV c p, oV o q, .int .i64 n] w fun e w' => ∃ x, e = .returned (.tuple #[ceV (appC c o n).1 x, .int .i64 (appC c o n).2]) ∧ COwn w.heap.size w' (appC c o n).1 x ∧ Below w.heap.size w w' := by
  cases hb : cmayB c n && mayO o n with
  | false =>
    have e : appC c o n = (ce0, 1200) := by unfold appC; rw [if_neg (by rw [hb]; simp)]
    rw [e]
    exact app_no1 c p o q n w hr hf hwf ho hs hb
  | true =>
    rw [Bool.and_eq_true] at hb
    by_cases hk : kindN o.kind = c.kind
    · have hl := lone_of hb.1
      have fo := fit_of hb.2
      have hv : o.value.size ≤ maxLen := by have := fo.value; unfold maxLen; omega
      have hd : o.dots.length * 16 ≤ 140737488355328 := by have := fo.dots.1; omega
      have hkd := fo.kind
      clear fo
      obtain ⟨dn, ds, time, deps, kind, ty, idd, field, value, re, im, rn, rs, dots⟩ := o
      simp only at hk hv hd hkd
      rcases (show kind = 0 ∨ kind = 1 ∨ kind = 2 ∨ kind = 3 ∨ kind = 4 ∨ kind = 5 by omega) with rfl | rfl | rfl | rfl | rfl | rfl
      · exact app_0 c p _ _ _ _ _ _ _ _ _ _ _ _ _ q n w hr hf hwf ho hs hv hd hb.1 hb.2 hk.symm (hl.1 (Or.inl hk.symm))
      · exact app_1 c p _ _ _ _ _ _ _ _ _ _ _ _ _ q n w hr hf hwf ho hs hv hd hb.1 hb.2 hk.symm (hl.1 (Or.inr hk.symm))
      · exact app_2 c p _ _ _ _ _ _ _ _ _ _ _ _ _ q n w hr hf hwf ho hs hv hd hb.1 hb.2 hk.symm (hl.2.1 hk.symm)
      · exact app_3 c p _ _ _ _ _ _ _ _ _ _ _ _ _ q n w hr hf hwf ho hs hv hd hb.1 hb.2 hk.symm (hl.2.1 hk.symm)
      · exact app_4 c p _ _ _ _ _ _ _ _ _ _ _ _ _ q n w hr hf hwf ho hs hv hd hb.1 hb.2 hk.symm (hl.2.2 hk.symm)
      · exact app_5 c p _ _ _ _ _ _ _ _ _ _ _ _ _ q n w hr hf hwf ho hs hv hd hb.1 hb.2 hk.symm (hl.2.2 hk.symm)
    · have e : appC c o n = (ce0, 1201) := by unfold appC; rw [if_pos (by rw [hb.1, hb.2]; rfl), if_neg hk]
      rw [e]
      exact app_no2 c p o q n w hr hf hwf ho hs hb.1 hb.2 hk

end Go.Proofs.YtgkddimijmnpcaaGreatDoor

/-
  What the law's first look at package cell comes to: plain facts.
-/
namespace Go.Proofs.YtgkddimijmnpcaaGreatDoor
open Go.RowKit
set_option linter.unusedVariables false

abbrev awO (k : Int) : O14 := ⟨1, 1, 4, [0, 0], k, ⟨#[84]⟩, ⟨#[105]⟩, ⟨#[102]⟩, ⟨#[97, 34, 1]⟩, 0, 0, 0, 0, []⟩
abbrev awC : Ce := ⟨3, false, 0, 0, ByteArray.empty, 0, 0, [], [], [0, 0]⟩
abbrev awD : Ce := ⟨3, false, 0, 0, ByteArray.empty, 0, 0, [], [⟨1, 1, 4, ⟨#[97, 34, 1]⟩, false⟩], [0, 1]⟩
abbrev awN : Ce := ⟨1, false, 0, 0, ByteArray.empty, 1, -2, [], [], []⟩
abbrev awX : Ce := ⟨9, false, 0, 0, ByteArray.empty, 0, 0, [], [], []⟩
theorem aw_new : newC 3 2 = awC := by kernel_rfl
theorem aw_newE : newE 3 2 = 0 := by kernel_rfl
theorem aw_new4 : newC 4 2 = ce0 := by kernel_rfl
theorem aw_new4E : newE 4 2 = 1201 := by kernel_rfl
theorem aw_new0 : newC 0 0 = ce0 := by kernel_rfl
theorem aw_new0E : newE 0 0 = 1200 := by kernel_rfl
theorem aw_app : appC awC (awO 4) 2 = (awD, 0) := by kernel_rfl
theorem aw_app0 : appC awD (awO 0) 2 = (ce0, 1201) := by kernel_rfl
theorem aw_read : readC awD = ([91, 34, 97, 92, 34, 92, 117, 48, 48, 48, 49, 34, 93], 0) := by kernel_rfl
theorem aw_readN : readC awN = ([91, 49, 44, 45, 50, 93], 0) := by kernel_rfl
theorem aw_readX : readC awX = ([], 1200) := by kernel_rfl
theorem aw_may : cmayB awD 2 = true := by kernel_rfl
theorem aw_und1 : undB [0, 1] [0, 1] = true := by kernel_rfl
theorem aw_und0 : undB [0, 1] [9, 0] = false := by kernel_rfl
theorem aw_mayC : cmayB awC 2 = true := by kernel_rfl
theorem aw_siz4 : Siz (awO 4) := ⟨by decide, by decide, by decide, by decide, by decide, by decide⟩
theorem aw_siz0 : Siz (awO 0) := ⟨by decide, by decide, by decide, by decide, by decide, by decide⟩
theorem aw_fitN : Fit awN := ⟨by decide, by decide, by decide, by decide, fun i x h => by simp at h, fun i x h => by simp at h⟩
theorem aw_fitX : Fit awX := ⟨by decide, by decide, by decide, by decide, fun i x h => by simp at h, fun i x h => by simp at h⟩
theorem aw_rdN : RdFit awN := rd_fit 0 (fun x h => by simp at h) (fun x h => by simp at h) (by decide) (by decide) (by decide)
theorem aw_rdX : RdFit awX := rd_fit 0 (fun x h => by simp at h) (fun x h => by simp at h) (by decide) (by decide) (by decide)

end Go.Proofs.YtgkddimijmnpcaaGreatDoor

/-
  The law's first look at package cell: it is one.
-/
namespace Go.Proofs.YtgkddimijmnpcaaGreatDoor
open Go.RowKit
set_option linter.unusedVariables false
set_option linter.unusedSimpArgs false

theorem rd_awD : rdV awD = .tuple #[.string ⟨#[91, 34, 97, 92, 34, 92, 117, 48, 48, 48, 49, 34, 93]⟩, .int .i64 0] := rdV_of aw_read
theorem rd_awN : rdV awN = .tuple #[.string ⟨#[91, 49, 44, 45, 50, 93]⟩, .int .i64 0] := rdV_of aw_readN
theorem rd_awX : rdV awX = .tuple #[.string ⟨#[]⟩, .int .i64 1200] := rdV_of aw_readX

set_option maxHeartbeats 8000000 in
set_option maxRecDepth 100000 in
theorem awake12_any (w : World) (ht : Tab w) :
    Calls Tryz.prog 25 #[] w fun e w' => e = .returned (.bool true) ∧ Below w.heap.size w w' := by
  obtain ⟨h, hh⟩ : ∃ h, w.heap.size = h := ⟨_, rfl⟩
  have HW : Hid (w.heap.size = h ∧ Tab w) := ⟨hh, ht⟩
  rw [hh]
  clear hh ht
  go_enter Tryz.func25, Tryz.ntmps25
  have C1 := new_any12 3 2 w
  rw [aw_new, aw_newE] at C1
  go_upto_region 1 with fail
  go_wp2_with fail
  refine C1.mono ?_
  rintro e w1 ⟨⟨eo, ec, lo, lc, so, sc⟩, rfl, o1, b1⟩
  have L1 : Hid (Regs h w w1 [] ∧ COwn h w1 awC ⟨eo, ec, lo, lc, so, sc⟩) := ⟨⟨HW.out.1 ▸ b1, by have := b1.size; have := HW.out.1; omega⟩, HW.out.1 ▸ o1⟩
  clear C1 o1 b1
  go_upto_region 2 with fail
  generalize hE : World.alloc w1 _ = w2
  have L2 : Hid (Regs h w w2 [(w1.heap.size, ceL awC ⟨eo, ec, lo, lc, so, sc⟩)] ∧ CRow w2 awC ⟨eo, ec, lo, lc, so, sc⟩) := by
    have := L1.out.1.push rfl (ceL awC ⟨eo, ec, lo, lc, so, sc⟩) 30
    have o := (L1.out.2.later ((Below.refl _ _).alloc (Nat.le_refl _) (.cells (ceL awC ⟨eo, ec, lo, lc, so, sc⟩).toArray 30))).row
    rw [← hE]
    exact ⟨this, o⟩
  clear hE L1
  generalize w1.heap.size = a1 at L2 ⊢
  have C2 := new_any12 4 2 w2
  rw [aw_new4, aw_new4E] at C2
  go_wp2_with fail
  refine C2.mono ?_
  rintro e w3 ⟨q3, rfl, _, b3⟩
  have L3 : Hid (Regs h w w3 [(a1, ceL awC ⟨eo, ec, lo, lc, so, sc⟩)] ∧ CRow w3 awC ⟨eo, ec, lo, lc, so, sc⟩) := ⟨L2.out.1.later b3, L2.out.2.later b3⟩
  clear C2 b3 L2
  go_upto_region 3 with fail
  generalize hE : World.alloc w3 _ = w4
  have L4 : Hid (Regs h w w4 [(a1, ceL awC ⟨eo, ec, lo, lc, so, sc⟩)] ∧ CRow w4 awC ⟨eo, ec, lo, lc, so, sc⟩) := by
    rw [← hE]
    exact ⟨L3.out.1.later ((Below.refl _ _).alloc (Nat.le_refl _) _), L3.out.2.later ((Below.refl _ _).alloc (Nat.le_refl _) _)⟩
  clear hE L3
  have C3 := new_any12 0 0 w4
  rw [aw_new0, aw_new0E] at C3
  go_wp2_with fail
  refine C3.mono ?_
  rintro e w5 ⟨q5, rfl, _, b5⟩
  have L5 : Hid (Regs h w w5 [(a1, ceL awC ⟨eo, ec, lo, lc, so, sc⟩)] ∧ CRow w5 awC ⟨eo, ec, lo, lc, so, sc⟩) := ⟨L4.out.1.later b5, L4.out.2.later b5⟩
  clear C3 b5 L4
  go_upto_region 4 with fail
  generalize hE : World.alloc w5 _ = w6
  have L6 : Hid (Regs h w w6 [(a1, ceL awC ⟨eo, ec, lo, lc, so, sc⟩)] ∧ CRow w6 awC ⟨eo, ec, lo, lc, so, sc⟩) := by
    rw [← hE]
    exact ⟨L5.out.1.later ((Below.refl _ _).alloc (Nat.le_refl _) _), L5.out.2.later ((Below.refl _ _).alloc (Nat.le_refl _) _)⟩
  clear hE L5
  generalize w5.heap.size = a5
  generalize w3.heap.size = a3
  go_upto_region 5 with fail
  generalize hE : World.alloc (World.alloc w6 _) _ = w7
  have e1 : (w6.alloc (.cells #[.int .i64 0, .int .i64 0] 3)).heap.size = w6.heap.size + 1 := by simp
  have L7 : Hid (Regs h w w7 [(w6.heap.size + 1, oL (awO 4) ⟨some ⟨w6.heap.size, 0, none⟩, 2, none, 0⟩), (a1, ceL awC ⟨eo, ec, lo, lc, so, sc⟩)] ∧ CRow w7 awC ⟨eo, ec, lo, lc, so, sc⟩ ∧ ORow w7 (awO 4) ⟨some ⟨w6.heap.size, 0, none⟩, 2, none, 0⟩ ∧ w6.heap.size < w6.heap.size + 1) := by
    have b1 : Below w6.heap.size w6 (w6.alloc (.cells #[.int .i64 0, .int .i64 0] 3)) := (Below.refl _ _).alloc (Nat.le_refl _) _
    have b2 : Below (w6.alloc (.cells #[.int .i64 0, .int .i64 0] 3)).heap.size (w6.alloc (.cells #[.int .i64 0, .int .i64 0] 3)) ((w6.alloc (.cells #[.int .i64 0, .int .i64 0] 3)).alloc (.cells (oL (awO 4) ⟨some ⟨w6.heap.size, 0, none⟩, 2, none, 0⟩).toArray 35)) := (Below.refl _ _).alloc (Nat.le_refl _) _
    have h1 := has_new w6 [.int .i64 0, .int .i64 0] 3
    have h2 := (L6.out.1.later b1).push e1 (oL (awO 4) ⟨some ⟨w6.heap.size, 0, none⟩, 2, none, 0⟩) 35
    rw [← hE]
    refine ⟨h2, (L6.out.2.later b1).later b2, ⟨?_, FRow.nil _ _⟩, Nat.lt_succ_self _⟩
    exact (fun _ => ⟨w6.heap.size, 0, rfl, (h1.later b2).1, fun i u hu => by rw [Nat.zero_add]; exact (h1.later b2).at i hu⟩)
  have H67 : h ≤ w6.heap.size + 1 := by have := L6.out.1.base.2; omega
  clear hE L6 e1
  have HA7 : h ≤ w6.heap.size + 1 := H67
  generalize w6.heap.size + 1 = a7 at L7 HA7 ⊢
  generalize w6.heap.size = ar at L7 ⊢
  have ldc : LdT 30 w7 a1 (ceV awC ⟨eo, ec, lo, lc, so, sc⟩) := ld_ce L7.out.1.2.1
  have ldo : Ld w7 a7 (oV (awO 4) ⟨some ⟨ar, 0, none⟩, 2, none, 0⟩) := ld_op L7.out.1.1
  have hlt7 : a7 < w7.heap.size := L7.out.1.1.1
  have CA := app_any awC ⟨eo, ec, lo, lc, so, sc⟩ (awO 4) ⟨some ⟨ar, 0, none⟩, 2, none, 0⟩ 2 w7 L7.out.2.1 (fit_may aw_mayC) (wf_may aw_mayC) L7.out.2.2.1 aw_siz4
  rw [aw_app] at CA
  go_wp2_with (first | refine wpList_ldt ldc rfl rfl rfl ?_ | refine wpList_ld ldo rfl rfl rfl ?_)
  refine CA.mono ?_
  rintro e w8 ⟨⟨go, gc, ho, hc, io, ic⟩, rfl, o8, b8⟩
  obtain ⟨B, hB⟩ : ∃ B, w7.heap.size = B := ⟨_, rfl⟩
  rw [hB] at o8 hlt7
  have L8 : Hid (Regs h w w8 [(a7, oL (awO 4) ⟨some ⟨ar, 0, none⟩, 2, none, 0⟩)] ∧ COwn B w8 awD ⟨go, gc, ho, hc, io, ic⟩ ∧ a7 < B ∧ ORow w8 (awO 4) ⟨some ⟨ar, 0, none⟩, 2, none, 0⟩ ∧ ar < a7) := ⟨L7.out.1.later b8 |>.1 |> fun hx => ⟨hx, (L7.out.1.later b8).2.2⟩, o8, hlt7, L7.out.2.2.1.later b8, L7.out.2.2.2⟩
  clear CA ldc ldo o8 b8 hB L7 hlt7
  go_upto_region 6 with fail
  generalize hE : World.alloc w8 _ = w9
  have L9 : Hid (Regs h w w9 [(w8.heap.size, ceL awD ⟨go, gc, ho, hc, io, ic⟩), (a7, oL (awO 4) ⟨some ⟨ar, 0, none⟩, 2, none, 0⟩)] ∧ COwn B w9 awD ⟨go, gc, ho, hc, io, ic⟩ ∧ a7 < B ∧ ORow w9 (awO 4) ⟨some ⟨ar, 0, none⟩, 2, none, 0⟩ ∧ w8.heap.size ≠ a7 ∧ ar < a7) := by
    have b1 : Below w8.heap.size w8 (w8.alloc (.cells (ceL awD ⟨go, gc, ho, hc, io, ic⟩).toArray 30)) := (Below.refl _ _).alloc (Nat.le_refl _) _
    have h2 := L8.out.1.push rfl (ceL awD ⟨go, gc, ho, hc, io, ic⟩) 30
    have h3 := L8.out.1.1.1
    rw [← hE]
    exact ⟨h2, L8.out.2.1.later b1, L8.out.2.2.1, L8.out.2.2.2.1.later b1, by omega, L8.out.2.2.2.2⟩
  clear hE L8
  generalize w8.heap.size = a8 at L9 ⊢
  have ldc : LdT 30 w9 a8 (ceV awD ⟨go, gc, ho, hc, io, ic⟩) := ld_ce L9.out.1.1
  have CR := cread_any awD ⟨go, gc, ho, hc, io, ic⟩ w9 L9.out.2.1.row (fit_may aw_may) (rd_may aw_may).1 (HW.out.2.later (HW.out.1.symm ▸ L9.out.1.base.1))
  rw [rd_awD] at CR
  go_wp2_with (refine wpList_ldt ldc rfl rfl rfl ?_)
  refine CR.mono ?_
  rintro e w10 ⟨rfl, b10⟩
  have L10 : Hid (Regs h w w10 [(a8, ceL awD ⟨go, gc, ho, hc, io, ic⟩), (a7, oL (awO 4) ⟨some ⟨ar, 0, none⟩, 2, none, 0⟩)] ∧ COwn B w10 awD ⟨go, gc, ho, hc, io, ic⟩ ∧ a7 < B ∧ ORow w10 (awO 4) ⟨some ⟨ar, 0, none⟩, 2, none, 0⟩ ∧ a8 ≠ a7 ∧ ar < a7) := ⟨L9.out.1.later b10, L9.out.2.1.later b10, L9.out.2.2.1, L9.out.2.2.2.1.later b10, L9.out.2.2.2.2⟩
  clear CR ldc b10 L9
  go_upto_region 7 with fail
  have L10h : h ≤ a7 := HA7
  have y4 : w10.cell? ⟨a7, 4, none⟩ = some (.int .i64 4) := L10.out.1.2.1.at 4 rfl
  have f4 : w10.frozen? ⟨a7, 4, none⟩ = false := L10.out.1.2.1.free 4 rfl
  go_upto_region 8 with fail
  generalize hE : World.setCell w10 _ _ = w11
  have L11 : Hid (Regs h w w11 [(a8, ceL awD ⟨go, gc, ho, hc, io, ic⟩)] ∧ Has w11 a7 (oL (awO 0) ⟨some ⟨ar, 0, none⟩, 2, none, 0⟩) ∧ CRow w11 awD ⟨go, gc, ho, hc, io, ic⟩ ∧ ORow w11 (awO 0) ⟨some ⟨ar, 0, none⟩, 2, none, 0⟩) := by
    have h1 : Has w10 a8 (ceL awD ⟨go, gc, ho, hc, io, ic⟩) := L10.out.1.1
    have h2 : Has w10 a7 (oL (awO 4) ⟨some ⟨ar, 0, none⟩, 2, none, 0⟩) := L10.out.1.2.1
    have h3 := L10.out.1.base
    have h5 : ar < a7 := L10.out.2.2.2.2.2
    have h6 : a7 < B := L10.out.2.2.1
    have hne := L10.out.2.2.2.2.1
    have hs7 : h ≤ a7 := L10h
    rw [← hE]
    refine ⟨⟨h1.other (fun e => hne e.symm) _ _, h3.1.setCell (p := ⟨a7, 4, none⟩) hs7 _, by simpa using h3.2⟩, h2.put 4 _, (L10.out.2.1.off h6 _ _).row, ⟨fun h0 => ?_, FRow.nil _ _⟩⟩
    obtain ⟨b, off, e, hb, hc⟩ := L10.out.2.2.2.1.1 h0
    refine ⟨b, off, e, by simpa using hb, fun i u hu => ?_⟩
    simp only [Option.some.injEq, Addr.mk.injEq, and_true] at e
    rw [World.cell?_setCell_other _ _ _ _ (fun e2 => by injection e2 with e3 _ _; omega)]
    exact hc i u hu
  clear hE L10 y4 f4 L10h
  have ldc : LdT 30 w11 a8 (ceV awD ⟨go, gc, ho, hc, io, ic⟩) := ld_ce L11.out.1.1
  have ldo : Ld w11 a7 (oV (awO 0) ⟨some ⟨ar, 0, none⟩, 2, none, 0⟩) := ld_op L11.out.2.1
  have CA := app_any awD ⟨go, gc, ho, hc, io, ic⟩ (awO 0) ⟨some ⟨ar, 0, none⟩, 2, none, 0⟩ 2 w11 L11.out.2.2.1 (fit_may aw_may) (wf_may aw_may) L11.out.2.2.2 aw_siz0
  rw [aw_app0] at CA
  go_wp2_with (first | refine wpList_ldt ldc rfl rfl rfl ?_ | refine wpList_ld ldo rfl rfl rfl ?_)
  refine CA.mono ?_
  rintro e w12 ⟨q12, rfl, _, b12⟩
  have L12 : Hid (Regs h w w12 [(a8, ceL awD ⟨go, gc, ho, hc, io, ic⟩)] ∧ CRow w12 awD ⟨go, gc, ho, hc, io, ic⟩) := ⟨L11.out.1.later b12, L11.out.2.2.1.later b12⟩
  clear CA ldc ldo b12 L11
  go_upto_region 9 with fail
  generalize hE : World.alloc w12 _ = w13
  have L13 : Hid (Regs h w w13 [(a8, ceL awD ⟨go, gc, ho, hc, io, ic⟩)] ∧ CRow w13 awD ⟨go, gc, ho, hc, io, ic⟩) := by
    rw [← hE]
    exact ⟨L12.out.1.later ((Below.refl _ _).alloc (Nat.le_refl _) _), L12.out.2.later ((Below.refl _ _).alloc (Nat.le_refl _) _)⟩
  clear hE L12
  have CN := cread_any awN pl0 w13 ⟨FRow.nil _ _, FRow.nil _ _, FRow.nil _ _⟩ aw_fitN aw_rdN (HW.out.2.later (HW.out.1.symm ▸ L13.out.1.base.1))
  rw [rd_awN] at CN
  go_wp2_with fail
  refine CN.mono ?_
  rintro e w14 ⟨rfl, b14⟩
  have L14 : Hid (Regs h w w14 [(a8, ceL awD ⟨go, gc, ho, hc, io, ic⟩)] ∧ CRow w14 awD ⟨go, gc, ho, hc, io, ic⟩) := ⟨L13.out.1.later b14, L13.out.2.later b14⟩
  clear CN b14 L13
  have CX := cread_any awX pl0 w14 ⟨FRow.nil _ _, FRow.nil _ _, FRow.nil _ _⟩ aw_fitX aw_rdX (HW.out.2.later (HW.out.1.symm ▸ L14.out.1.base.1))
  rw [rd_awX] at CX
  go_wp2_with fail
  refine CX.mono ?_
  rintro e w15 ⟨rfl, b15⟩
  have L15 : Hid (Regs h w w15 [(a8, ceL awD ⟨go, gc, ho, hc, io, ic⟩)] ∧ CRow w15 awD ⟨go, gc, ho, hc, io, ic⟩) := ⟨L14.out.1.later b15, L14.out.2.later b15⟩
  clear CX b15 L14
  have y9 : w15.cell? ⟨a8, 9, none⟩ = some (.slice io 2 ic) := L15.out.1.1.at 9 rfl
  go_wp2_with (go_at_call 18; refine (num_any _ _).mono ?_; rintro e wn ⟨rfl, hwn⟩; have hwm := hwn.symm; clear hwn; subst hwm)
  have L16 : Hid (Regs h w (w15.alloc (.cells #[.int .i64 0, .int .i64 1] 3)) [(a8, ceL awD ⟨go, gc, ho, hc, io, ic⟩)] ∧ CRow (w15.alloc (.cells #[.int .i64 0, .int .i64 1] 3)) awD ⟨go, gc, ho, hc, io, ic⟩ ∧ FRow (w15.alloc (.cells #[.int .i64 0, .int .i64 1] 3)) (some ⟨w15.heap.size, 0, none⟩) (flatI [0, 1])) :=
    ⟨L15.out.1.later ((Below.refl _ _).alloc (Nat.le_refl _) _), L15.out.2.later ((Below.refl _ _).alloc (Nat.le_refl _) _), fun _ => ⟨w15.heap.size, 0, rfl, (has_new w15 [.int .i64 0, .int .i64 1] 3).1, fun i u hu => by rw [Nat.zero_add]; exact (has_new w15 [.int .i64 0, .int .i64 1] 3).at i hu⟩⟩
  have CS := sameInts_any io (some ⟨w15.heap.size, 0, none⟩) ic 2 [0, 1] (w15.alloc (.cells #[.int .i64 0, .int .i64 1] 3)) L16.out.2.1.2.2 L16.out.2.2 (by decide)
  refine CS.mono ?_
  rintro e w16 ⟨rfl, b16⟩
  have L17 : Hid (Regs h w w16 [(a8, ceL awD ⟨go, gc, ho, hc, io, ic⟩)] ∧ CRow w16 awD ⟨go, gc, ho, hc, io, ic⟩) := ⟨L16.out.1.later b16, L16.out.2.1.later b16⟩
  clear CS b16 L15 L16 y9
  have ldc : LdT 30 w16 a8 (ceV awD ⟨go, gc, ho, hc, io, ic⟩) := ld_ce L17.out.1.1
  have CM := cmay_any awD ⟨go, gc, ho, hc, io, ic⟩ 2 w16 L17.out.2 (fit_may aw_may) (wf_may aw_may)
  rw [aw_may] at CM
  go_wp2_with (first | (go_at_call 18; refine (num_any _ _).mono ?_; rintro e wn ⟨rfl, hwn⟩; have hwm := hwn.symm; clear hwn; subst hwm) | refine wpList_ldt ldc rfl rfl rfl ?_)
  refine CM.mono ?_
  rintro e w17 ⟨rfl, b17⟩
  have L18 : Hid (Regs h w w17 [(a8, ceL awD ⟨go, gc, ho, hc, io, ic⟩)] ∧ CRow w17 awD ⟨go, gc, ho, hc, io, ic⟩) := ⟨L17.out.1.later b17, L17.out.2.later b17⟩
  clear CM b17 L17 ldc
  have ldc : LdT 30 w17 a8 (ceV awD ⟨go, gc, ho, hc, io, ic⟩) := ld_ce L18.out.1.1
  go_wp2_with (refine wpList_ldt ldc rfl rfl rfl ?_)
  have L19 : Hid (Regs h w (w17.alloc (.cells #[.int .i64 0, .int .i64 1] 3)) [(a8, ceL awD ⟨go, gc, ho, hc, io, ic⟩)] ∧ CRow (w17.alloc (.cells #[.int .i64 0, .int .i64 1] 3)) awD ⟨go, gc, ho, hc, io, ic⟩ ∧ FRow (w17.alloc (.cells #[.int .i64 0, .int .i64 1] 3)) (some ⟨w17.heap.size, 0, none⟩) (flatI [0, 1])) :=
    ⟨L18.out.1.later ((Below.refl _ _).alloc (Nat.le_refl _) _), L18.out.2.later ((Below.refl _ _).alloc (Nat.le_refl _) _), fun _ => ⟨w17.heap.size, 0, rfl, (has_new w17 [.int .i64 0, .int .i64 1] 3).1, fun i u hu => by rw [Nat.zero_add]; exact (has_new w17 [.int .i64 0, .int .i64 1] 3).at i hu⟩⟩
  have CS := stable_any awD ⟨go, gc, ho, hc, io, ic⟩ (some ⟨w17.heap.size, 0, none⟩) 2 [0, 1] (w17.alloc (.cells #[.int .i64 0, .int .i64 1] 3)) L19.out.2.1 L19.out.2.2
  rw [show undB awD.seen [0, 1] = true from aw_und1] at CS
  refine CS.mono ?_
  rintro e w18 ⟨rfl, b18⟩
  have L20 : Hid (Regs h w w18 [(a8, ceL awD ⟨go, gc, ho, hc, io, ic⟩)] ∧ CRow w18 awD ⟨go, gc, ho, hc, io, ic⟩) := ⟨L19.out.1.later b18, L19.out.2.1.later b18⟩
  clear CS b18 L18 L19 ldc
  have ldc : LdT 30 w18 a8 (ceV awD ⟨go, gc, ho, hc, io, ic⟩) := ld_ce L20.out.1.1
  go_wp2_with (refine wpList_ldt ldc rfl rfl rfl ?_)
  have L21 : Hid (Regs h w (w18.alloc (.cells #[.int .i64 9, .int .i64 0] 3)) [(a8, ceL awD ⟨go, gc, ho, hc, io, ic⟩)] ∧ CRow (w18.alloc (.cells #[.int .i64 9, .int .i64 0] 3)) awD ⟨go, gc, ho, hc, io, ic⟩ ∧ FRow (w18.alloc (.cells #[.int .i64 9, .int .i64 0] 3)) (some ⟨w18.heap.size, 0, none⟩) (flatI [9, 0])) :=
    ⟨L20.out.1.later ((Below.refl _ _).alloc (Nat.le_refl _) _), L20.out.2.later ((Below.refl _ _).alloc (Nat.le_refl _) _), fun _ => ⟨w18.heap.size, 0, rfl, (has_new w18 [.int .i64 9, .int .i64 0] 3).1, fun i u hu => by rw [Nat.zero_add]; exact (has_new w18 [.int .i64 9, .int .i64 0] 3).at i hu⟩⟩
  have CS := stable_any awD ⟨go, gc, ho, hc, io, ic⟩ (some ⟨w18.heap.size, 0, none⟩) 2 [9, 0] (w18.alloc (.cells #[.int .i64 9, .int .i64 0] 3)) L21.out.2.1 L21.out.2.2
  rw [show undB awD.seen [9, 0] = false from aw_und0] at CS
  refine CS.mono ?_
  rintro e w19 ⟨rfl, b19⟩
  have L22 : Hid (Below h w w19) := (L21.out.1.later b19).base.1
  clear CS b19 L20 L21 ldc
  go_wp2_with fail
  go_ret
  exact ⟨rfl, L22.out⟩

end Go.Proofs.YtgkddimijmnpcaaGreatDoor

/-
  The walk of the law CellKeeps: what an operation leaves of a cell may be, and has seen it.
-/
namespace Go.Proofs.YtgkddimijmnpcaaGreatDoor.CellKeeps
open Go.RowKit
set_option linter.unusedVariables false
set_option linter.unusedSimpArgs false

/-- The cell and the operation, in blocks h, h + 1. -/
structure Two (w : World) (h : Nat) (c : Ce) (p : Pl) (o : O14) (q : Pq) (W : World) : Prop where
  base : Below h w W
  cell : Has W h (ceL c p)
  op : Has W (h + 1) (oL o q)
  cr : CRow W c p
  orw : ORow W o q
theorem Two.later {w w1 w2 : World} {h : Nat} {c : Ce} {p : Pl} {o : O14} {q : Pq} (H : Two w h c p o q w1) (hb : Below w1.heap.size w1 w2) : Two w h c p o q w2 :=
  ⟨H.base.trans (hb.mono (by have := H.op.1; omega)), H.cell.later hb, H.op.later hb, H.cr.later hb, H.orw.later hb⟩
theorem two_new {w : World} {h : Nat} (hh : w.heap.size = h) {c : Ce} {p : Pl} {o : O14} {q : Pq} (hr : CRow w c p) (ho : ORow w o q) :
    Two w h c p o q ((w.alloc (.cells (ceL c p).toArray 30)).alloc (.cells (oL o q).toArray 35)) := by
  subst hh
  have b1 : Below w.heap.size w (w.alloc (.cells (ceL c p).toArray 30)) := (Below.refl _ _).alloc (Nat.le_refl _) _
  have b2 := b1.alloc (by simp) (.cells (oL o q).toArray 35)
  refine ⟨b2, (has_new _ _ _).alloc _, ?_, hr.later b2, ho.later b2⟩
  have := has_new (w.alloc (.cells (ceL c p).toArray 30)) (oL o q) 35
  simpa using this
/-- A string that is not empty. -/
theorem tl_len (S : ByteArray) : ∀ (n i : Nat) (r : List UInt8), S.size - i = n → (ByteArray.toList.loop S i r).length = r.length + n
  | 0, i, r, h => by rw [ByteArray.toList.loop, if_neg (by omega)]; simp
  | n + 1, i, r, h => by rw [ByteArray.toList.loop, if_pos (by omega), tl_len S n (i + 1) _ (by omega)]; simp; omega
theorem tl_empty {S : ByteArray} (h : S.size ≠ 0) : S.toList.isEmpty = false := by
  have := tl_len S S.size 0 [] (by omega)
  cases hl : S.toList with
  | nil =>
    unfold ByteArray.toList at hl
    rw [hl] at this
    simp at this
    omega
  | cons a l => rfl
/-- What Apply leaves: nothing, or what may be. -/
theorem app_or (c : Ce) (o : O14) (n : Int) : ((appC c o n).2 ≠ 0 ∧ (appC c o n).1 = ce0) ∨ ((appC c o n).2 = 0 ∧ (appC c o n).1.seen = seeV c.seen (o.dn, o.ds) ∧ (appC c o n).1.kind = c.kind ∧ cmayB (appC c o n).1 n = true ∧ 0 ≤ o.dn ∧ o.dn < c.seen.length) := by
  by_cases hb : (cmayB c n && mayO o n) = true
  · by_cases hk : kindN o.kind = c.kind
    · by_cases he : (effC c o).2 = 0
      · rw [Bool.and_eq_true] at hb
        have h1 := appC_ok hb.1 hb.2 hk he
        have h2 := keeps hb.1 hb.2 hk he
        have hP := opP_of hb.2
        have hv : vecB c.seen n = true := by
          have := hb.1
          unfold cmayB at this
          rw [Bool.and_eq_true] at this
          exact this.1
        have hn := vec_size hv
        refine Or.inr ?_
        rw [h1.1]
        refine ⟨rfl, ?_, h2.2.2, h1.2, hP.dn.1, by have := hP.dn.2; omega⟩
        show seeV (effC c o).1.seen (o.dn, o.ds) = _
        rw [h2.2.1]
      · refine Or.inl ?_
        unfold appC
        rw [if_pos hb, if_pos hk, if_neg he]
        exact ⟨he, rfl⟩
    · refine Or.inl ?_
      unfold appC
      rw [if_pos hb, if_neg hk]
      exact ⟨by decide, rfl⟩
  · refine Or.inl ?_
    unfold appC
    rw [if_neg hb]
    exact ⟨by decide, rfl⟩

set_option maxHeartbeats 8000000 in
set_option maxRecDepth 100000 in
theorem core (c : Ce) (p : Pl) (o : O14) (q : Pq) (n : Int) (w : World) (hr : CRow w c p) (hf : Fit c) (hwf : Wf5 c) (ho : ORow w o q) (hs : Siz o) (ht : Tab w) :
    Calls Tryz.prog 4 #[ceV c p, oV o q, .int .i64 n] w fun e w' => e = .returned (.bool true) ∧ Below w.heap.size w w' := by
  obtain ⟨peo, pec, plo, plc, pso, psc⟩ := p
  obtain ⟨h, hh⟩ : ∃ h, w.heap.size = h := ⟨_, rfl⟩
  have HP : Hid (Fit c ∧ Wf5 c ∧ Siz o ∧ Tab w ∧ w.heap.size = h) := ⟨hf, hwf, hs, ht, hh⟩
  have H0 : Hid (Two w h c ⟨peo, pec, plo, plc, pso, psc⟩ o q ((w.alloc (.cells (ceL c ⟨peo, pec, plo, plc, pso, psc⟩).toArray 30)).alloc (.cells (oL o q).toArray 35))) := two_new hh hr ho
  rw [hh]
  obtain ⟨d, er, hD⟩ : ∃ d er, appC c o n = (d, er) := ⟨_, _, rfl⟩
  have HA : Hid ((er ≠ 0 ∧ d = ce0) ∨ (er = 0 ∧ d.seen = seeV c.seen (o.dn, o.ds) ∧ d.kind = c.kind ∧ cmayB d n = true ∧ 0 ≤ o.dn ∧ o.dn < c.seen.length)) := by
    have := app_or c o n
    rw [hD] at this
    exact this
  have HD : Hid (appC c o n = (d, er)) := hD
  clear hr hf hwf ho hs ht hD
  go_enter Tryz.func4, Tryz.ntmps4
  go_upto_region 1 with fail
  generalize hW : (w.alloc (.cells (ceL c ⟨peo, pec, plo, plc, pso, psc⟩).toArray 30)).alloc (.cells (oL o q).toArray 35) = w1 at H0 ⊢
  clear hW
  try simp only [hh]
  clear hh
  have CW := awake12_any w1 (HP.out.2.2.2.1.later (HP.out.2.2.2.2.symm ▸ H0.out.base))
  go_wp2_with fail
  refine CW.mono ?_
  rintro e w2 ⟨rfl, b2⟩
  have H2 : Hid (Two w h c ⟨peo, pec, plo, plc, pso, psc⟩ o q w2) := H0.out.later b2
  clear CW b2 H0
  go_upto_region 3 with fail
  have ldc : LdT 30 w2 h (ceV c ⟨peo, pec, plo, plc, pso, psc⟩) := ld_ce H2.out.cell
  have ldo : Ld w2 (h + 1) (oV o q) := ld_op H2.out.op
  have CA := app_any c ⟨peo, pec, plo, plc, pso, psc⟩ o q n w2 H2.out.cr HP.out.1 HP.out.2.1 H2.out.orw HP.out.2.2.1
  rw [HD.out] at CA
  go_wp2_with (first | refine wpList_ldt ldc rfl rfl rfl ?_ | refine wpList_ld ldo rfl rfl rfl ?_)
  refine CA.mono ?_
  rintro e w3 ⟨⟨eo, ec, lo, lc, so, sc⟩, rfl, o3, b3⟩
  have H3 : Hid (Two w h c ⟨peo, pec, plo, plc, pso, psc⟩ o q w3 ∧ COwn w2.heap.size w3 d ⟨eo, ec, lo, lc, so, sc⟩) := ⟨H2.out.later b3, o3⟩
  clear CA ldc ldo o3 b3 H2
  go_upto_region 4 with fail
  generalize hE : World.alloc w3 _ = w4
  have H4 : Hid (Two w h c ⟨peo, pec, plo, plc, pso, psc⟩ o q w4 ∧ CRow w4 d ⟨eo, ec, lo, lc, so, sc⟩ ∧ Has w4 w3.heap.size (ceL d ⟨eo, ec, lo, lc, so, sc⟩)) := by
    have hal : Below w3.heap.size w3 (w3.alloc (.cells (ceL d ⟨eo, ec, lo, lc, so, sc⟩).toArray 30)) := (Below.refl _ _).alloc (Nat.le_refl _) _
    rw [← hE]
    exact ⟨H3.out.1.later hal, (H3.out.2.later hal).row, has_new w3 (ceL d ⟨eo, ec, lo, lc, so, sc⟩) _⟩
  clear hE H3
  generalize w3.heap.size = a3 at H4 ⊢
  by_cases h0 : er = 0
  · subst h0
    have hA := HA.out.resolve_left (fun hx => hx.1 rfl)
    clear HA HD
    obtain ⟨_, hseen, hkind, hmay, hd0, hd1⟩ := hA
    obtain ⟨i0, hi0⟩ : ∃ i : Nat, o.dn = i := ⟨o.dn.toNat, by omega⟩
    obtain ⟨ds, hds⟩ : ∃ x, o.ds = x := ⟨_, rfl⟩
    obtain ⟨L, hL⟩ : ∃ L, c.seen.length = L := ⟨_, rfl⟩
    rw [hi0, hds] at hseen
    have HL : Hid (L ≤ maxLen) := by have := HP.out.1.2.2.1; unfold maxLen; show L ≤ _; omega
    have hLd : d.seen.length = L := by rw [hseen, seeV_len, hL]
    obtain ⟨b1, f1, e1, hb1, hc1⟩ := H4.out.1.cr.2.2 (by rw [flatI_len]; omega)
    obtain ⟨b2, f2, e2, hb2, hc2⟩ := H4.out.2.1.2.2 (by rw [flatI_len]; omega)
    simp only at e1 e2
    subst e1 e2
    have y0 : w4.cell? ⟨h + 1, 0, none⟩ = some (.int .i64 (i0 : Int)) := hi0 ▸ H4.out.1.op.at 0 rfl
    have y1 : w4.cell? ⟨h + 1, 1, none⟩ = some (.int .i64 ds) := hds ▸ H4.out.1.op.at 1 rfl
    have y9 : w4.cell? ⟨h, 9, none⟩ = some (.slice (some ⟨b1, f1, none⟩) L psc) := hL ▸ H4.out.1.cell.at 9 rfl
    have x9 : w4.cell? ⟨a3, 9, none⟩ = some (.slice (some ⟨b2, f2, none⟩) L sc) := hLd ▸ H4.out.2.2.at 9 rfl
    have g0 : decide ((i0 : Int) < 0) = false := by simp
    have hlt : (i0 : Int) < (L : Int) := by omega
    have g1 : decide ((L : Int) ≤ (i0 : Int)) = false := by simp; omega
    have HC : Hid (∀ (i : Nat), i < L → ∃ v, w4.cell? ⟨b1, f1 + i, none⟩ = some (.int .i64 v) ∧ w4.cell? ⟨b2, f2 + i, none⟩ = some (.int .i64 (if i = i0 then max v ds else v))) := fun i hi => by
      have hi1 : i < c.seen.length := by omega
      have hi2 : i < d.seen.length := by omega
      refine ⟨c.seen.getD i 0, hc1 i _ (by simp [flatI, List.getD, hi1]), ?_⟩
      rw [hc2 i (.int .i64 (d.seen.getD i 0)) (by simp [flatI, List.getD, hi2]), hseen, seeV_at]
      by_cases hq : i = i0
      · rw [if_pos ⟨by simpa using hq, hi1⟩, if_pos hq]
      · rw [if_neg (fun hx => hq (by simpa using hx.1)), if_neg hq]
    have HF : Hid (d.kind = c.kind ∧ cmayB d n = true) := ⟨hkind, hmay⟩
    clear hseen hkind hmay hd0 hd1 hi0 hds hL hLd hc1 hc2
    go_wp2_with (go_at_call 18; refine (num_any _ _).mono ?_; rintro e wn ⟨rfl, hwn⟩; have hwm := hwn.symm; clear hwn; subst hwm)
    have HW4 : Hid (Below h w w4) := H4.out.1.base
    go_loopg [9, 10] L (fun n iv _ wr => ∃ i : Nat, i + n = L ∧ iv = .int .i64 i ∧ Hid (wr = w4))
    case atStart => exact ⟨0, by omega, rfl, rfl⟩
    case round =>
      obtain ⟨i, hin, rfl, hwr⟩ := hrel
      have hwr2 := hwr.out
      clear hwr
      subst hwr2
      by_cases hi : i < L
      · obtain ⟨v, hv1, hv2⟩ := HC.out i hi
        have hi2 : (i : Int) < (L : Int) := by omega
        have hq : decide ((i : Int) < (L : Int)) = true := decide_eq_true hi2
        have hw : IntKind.i64.wrap ((i : Int) + 1) = (i : Int) + 1 := by rw [IntKind.wrap_i64]; have := HL.out; unfold maxLen at this; omega
        by_cases hd : i = i0
        · subst hd
          rw [if_pos rfl] at hv2
          go_wp2
          go_roundg (L - i - 1)
          case measure => omega
          case rel => exact ⟨i + 1, by omega, by simp, rfl⟩
        · rw [if_neg hd] at hv2
          have hd2 : ((i : Int) == (i0 : Int)) = false := by simp; omega
          go_wp2
          go_roundg (L - i - 1)
          case measure => omega
          case rel => exact ⟨i + 1, by omega, by simp, rfl⟩
      · have hq : decide ((i : Int) < (L : Int)) = false := by simp; omega
        go_upto_region 16 with fail
        clear hq hi y0 y1 y9 x9 g0 g1 hlt HC
        have hrd := rd_may HF.out.2
        obtain ⟨l, hl⟩ : ∃ l, (readC d).1 = l := ⟨_, rfl⟩
        have er : rdV d = .tuple #[.string ⟨l.toArray⟩, .int .i64 0] := rdV_of (Prod.ext hl hrd.2.1)
        have hne : l ≠ [] := hl ▸ hrd.2.2
        obtain ⟨S, hS⟩ : ∃ S : ByteArray, (⟨l.toArray⟩ : ByteArray) = S := ⟨_, rfl⟩
        have hSn : Hid (S.size ≠ 0) := fun e => hne (by
          rw [← hS] at e
          exact List.eq_nil_of_length_eq_zero (by simpa [ByteArray.size] using e))
        rw [hS] at er
        have HRF : Hid (RdFit d) := hrd.1
        clear hrd hl hne hS
        obtain ⟨kk, hkk⟩ : ∃ k, c.kind = k := ⟨_, rfl⟩
        have ldc : LdT 30 wr a3 (ceV d ⟨eo, ec, lo, lc, some ⟨b2, f2, none⟩, sc⟩) := ld_ce H4.out.2.2
        have CR := cread_any d ⟨eo, ec, lo, lc, some ⟨b2, f2, none⟩, sc⟩ wr H4.out.2.1 (fit_may HF.out.2) HRF.out (HP.out.2.2.2.1.later (HP.out.2.2.2.2.symm ▸ HW4.out))
        rw [er] at CR
        go_wp2_with (refine wpList_ldt ldc rfl rfl rfl ?_)
        refine CR.mono ?_
        rintro e w5 ⟨rfl, b5⟩
        have H5 : Hid (Two w h c ⟨peo, pec, plo, plc, some ⟨b1, f1, none⟩, psc⟩ o q w5 ∧ CRow w5 d ⟨eo, ec, lo, lc, some ⟨b2, f2, none⟩, sc⟩ ∧ Has w5 a3 (ceL d ⟨eo, ec, lo, lc, some ⟨b2, f2, none⟩, sc⟩)) := ⟨H4.out.1.later b5, H4.out.2.1.later b5, H4.out.2.2.later b5⟩
        clear CR er b5 H4 ldc
        have ldc : LdT 30 w5 a3 (ceV d ⟨eo, ec, lo, lc, some ⟨b2, f2, none⟩, sc⟩) := ld_ce H5.out.2.2
        have CM := cmay_any d ⟨eo, ec, lo, lc, some ⟨b2, f2, none⟩, sc⟩ n w5 H5.out.2.1 (fit_may HF.out.2) (wf_may HF.out.2)
        rw [HF.out.2] at CM
        go_upto_region 17 with fail
        go_wp2_with (refine wpList_ldt ldc rfl rfl rfl ?_)
        refine CM.mono ?_
        rintro e w6 ⟨rfl, b6⟩
        have H6 : Hid (Below h w w6) := (H5.out.1.later b6).base
        have k1 : w6.cell? ⟨a3, 0, none⟩ = some (.int .i64 kk) := by rw [← hkk, ← HF.out.1]; exact (H5.out.2.2.later b6).at 0 rfl
        have k2 : w6.cell? ⟨h, 0, none⟩ = some (.int .i64 kk) := by rw [← hkk]; exact (H5.out.1.later b6).cell.at 0 rfl
        clear CM ldc b6 H5 hkk
        go_wp2_with (go_at_call 18; refine (num_any _ _).mono ?_; rintro e wn ⟨rfl, hwn⟩; have hwm := hwn.symm; clear hwn; subst hwm)
        go_ret
        exact ⟨ret_bool (by rw [tl_empty hSn.out]; rfl), H6.out⟩
  · have hd : d = ce0 := by
      rcases HA.out with h1 | h1
      · exact h1.2
      · exact absurd h1.1 h0
    have q0 : (er != 0) = true := by simpa using h0
    clear HA HD h0
    subst hd
    have ldc : LdT 30 w4 a3 (ceV ce0 ⟨eo, ec, lo, lc, so, sc⟩) := ld_ce H4.out.2.2
    have CS := sameCell_any ce0 ⟨eo, ec, lo, lc, so, sc⟩ pl0 w4 H4.out.2.1 ⟨FRow.nil _ _, FRow.nil _ _, FRow.nil _ _⟩ ⟨by decide, by decide, by decide, by decide, fun i x hx => by simp [ce0] at hx, fun i x hx => by simp [ce0] at hx⟩
    go_wp2_with (first | (go_at_call 18; refine (num_any _ _).mono ?_; rintro e wn ⟨rfl, hwn⟩; have hwm := hwn.symm; clear hwn; subst hwm) | refine wpList_ldt ldc rfl rfl rfl ?_ | (go_at_call 17; refine CS.mono ?_; rintro e w5 ⟨rfl, b5⟩; have H5 : Hid (Below h w w5) := (H4.out.1.later b5).base; clear b5 CS))
    go_ret
    exact ⟨rfl, H5.out⟩

set_option maxRecDepth 100000 in
theorem walk {H0 H1 : Type} {enc0 : TypeId × Value → H0} {enc1 : TypeId × Value → H1} {base0 base1 : Nat} {d0 : DataW H0} {d1 : DataW H1} {p0 p1 : List MemPlace} (v0 v1 : Value) (n : Int) (w : World)
    (o0 : Value.okWide Tryz.prog w .any base0 30 v0) (h0 : DataW.Trod enc0 Tryz.prog w 0 (fun _ => true) true 30 v0 d0 p0) (z0 : ∀ n, n ∈ DataW.weights Tryz.prog 30 d0 → n ≤ reachBytes)
    (o1 : Value.okWide Tryz.prog w .any base1 35 v1) (h1 : DataW.Trod enc1 Tryz.prog w 0 (fun _ => true) true 35 v1 d1 p1) (z1 : ∀ n, n ∈ DataW.weights Tryz.prog 35 d1 → n ≤ reachBytes)
    (_ : (Lit.int .i64 n).wf = true) (ht : Tab w) :
    Calls Tryz.prog 4 #[v0, v1, .int .i64 n] w fun e w' => e = .returned (.bool true) ∧ Below w.heap.size w w' := by
  obtain ⟨c, p, rfl, _, _, hr, hf, hwf⟩ := open_cellW o0 h0 z0
  obtain ⟨o, q, rfl, ho, hs⟩ := open_op o1 h1 z1
  exact core c p o q n w hr hf hwf ho hs ht

end Go.Proofs.YtgkddimijmnpcaaGreatDoor.CellKeeps

