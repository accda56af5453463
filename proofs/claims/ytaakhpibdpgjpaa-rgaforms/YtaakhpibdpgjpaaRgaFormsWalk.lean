/-
  The walk of the law RgaForms: kinds, elements and places that may not be.
-/
import Derived.Test.YtaakhpibdpgjpaaAwake10
import Derived.Test.YtaakhpibdpgjpaaBytes
import Derived.Test.YtaakhpibdpgjpaaStrs
import Derived.Test.YtaakhpibdpgjpaaMasks
import Derived.OwnWalk
namespace Go.Proofs.Ytaakhpibdpgjpaa.RgaForms
open Go.RowKit Go.Shelf
set_option linter.unusedVariables false
set_option linter.unusedSimpArgs false

theorem mod9 (a : Int) : ∃ k : Nat, k < 9 ∧ (IntKind.u64.wrap a).tmod 9 = (k : Int) := by
  have h1 : IntKind.u64.wrap a = a % 18446744073709551616 := by simp [IntKind.wrap, IntKind.bits, IntKind.signed]
  rw [h1]
  generalize hz : a % 18446744073709551616 = z
  have hz0 : 0 ≤ z := by omega
  rw [Int.tmod_eq_emod_of_nonneg hz0]
  exact ⟨(z % 9).toNat, by omega, by omega⟩

/-- The two elements, as they lie. -/
abbrev en2 : List Value := [.int .i64 0, .int .i64 1, .int .i64 1, .string xA, .bool false, .int .i64 0, .int .i64 2, .int .i64 2, .string ⟨#[]⟩, .bool true]
abbrev fl2 : List L5 := [⟨0, 1, 1, xA, false⟩, ⟨0, 2, 2, ⟨#[]⟩, true⟩]
abbrev fl3 : List L5 := [⟨0, 1, 1, xA, false⟩, ⟨0, 2, 2, ⟨#[]⟩, true⟩, ⟨1, 1, 3, xB, false⟩]
/-- A cell of that kind of the two elements. -/
def fc (k : Int) : Ce := ⟨k, false, 0, 0, ByteArray.empty, 0, 0, [], fl2, []⟩
abbrev fl (k : Int) (g : Nat) : List Value := [.int .i64 k, .bool false, .int .i64 0, .int .i64 0, .string ⟨#[]⟩, .int .i64 0, .int .i64 0, .slice none 0 0, .slice (some ⟨g, 0, none⟩) 2 2, .slice none 0 0]
abbrev fv (k : Int) (g : Nat) : Value := .agg #[.int .i64 k, .bool false, .int .i64 0, .int .i64 0, .string ⟨#[]⟩, .int .i64 0, .int .i64 0, .slice none 0 0, .slice (some ⟨g, 0, none⟩) 2 2, .slice none 0 0]
abbrev fp (g : Nat) : Pl := ⟨none, 0, some ⟨g, 0, none⟩, 2, none, 0⟩
theorem has_rowL {w : World} {g : Nat} {xs : List Value} (h : Has w g xs) : FRow w (some ⟨g, 0, none⟩) xs := fun _ => ⟨g, 0, rfl, h.1, fun i u hu => by rw [Nat.zero_add]; exact (h.2 i u hu).1⟩
theorem small2 : SmallX fl2 := smallX_aw (by decide) (by decide +kernel)
theorem ffit (k : Int) : Fit (fc k) := by
  obtain ⟨h1, h2, h3, h4, h5, h6⟩ := small2.fit
  exact ⟨h1, h2, h3, h4, h5, h6⟩
theorem frowF {w : World} {g : Nat} (k : Int) (h : Has w g en2) : CRow w (fc k) (fp g) := ⟨FRow.nil _ _, has_rowL h, FRow.nil _ _⟩
theorem fins3 : insL fl2 ⟨1, 1, 3, xB, false⟩ (0, 2) = some fl3 := eqXs_some (by decide +kernel)
theorem fins_yes (g : Nat) (w : World) (h : Has w g en2) :
    Calls Try.prog 10 #[fv 3 g, .agg #[.int .i64 1, .int .i64 1, .int .i64 3, .string xB, .bool false], .agg #[.int .i64 0, .int .i64 2]] w fun e w' => ∃ q', e = .returned (.tuple #[llV 3 q', .int .i64 0]) ∧ Below w.heap.size w w' :=
  (inss_yes (l := fl2) (q := fp g) (e := ⟨1, 1, 3, xB, false⟩) (d := (0, 2)) w fl3 2 3 rfl (has_rowL h) small2 (by decide +kernel) fins3 rfl).mono fun e w' ⟨q', h1, _, h2⟩ => ⟨q', h1, h2⟩
theorem fins_no (k : Int) (g : Nat) (en es et : Int) (ev : ByteArray) (eg : Bool) (d1 d2 : Int) (w : World) (h : Has w g en2) (hv : ev.size ≤ maxLen) (hb : (decide (k = 3) && okX fl2 ⟨en, es, et, ev, eg⟩) = false) :
    Calls Try.prog 10 #[fv k g, .agg #[.int .i64 en, .int .i64 es, .int .i64 et, .string ev, .bool eg], .agg #[.int .i64 d1, .int .i64 d2]] w fun e w' => e = .returned (.tuple #[zv 0, .int .i64 1000]) ∧ Below w.heap.size w w' :=
  ins_no (fc k) (fp g) ⟨en, es, et, ev, eg⟩ (d1, d2) w (frowF k h) (ffit k) hv hb
theorem fins_range (g : Nat) (d2 : Int) (hd : 2 < d2) (w : World) (h : Has w g en2) :
    Calls Try.prog 10 #[fv 3 g, .agg #[.int .i64 1, .int .i64 1, .int .i64 3, .string xB, .bool false], .agg #[.int .i64 0, .int .i64 d2]] w fun e w' => e = .returned (.tuple #[zv 0, .int .i64 1001]) ∧ Below w.heap.size w w' := by
  refine ins_range (fc 3) (fp g) ⟨1, 1, 3, xB, false⟩ (0, d2) w (frowF 3 h) (ffit 3) rfl (by decide +kernel) ?_
  rw [behindL_else (by simp; omega)]
  show (atD fl2 (0, d2)).map (· + 1) = none
  have : atD fl2 (0, d2) = none := by
    simp only [fl2, atD, dotX]
    rw [if_neg (by simp; omega), if_neg (by simp; omega)]
    rfl
  rw [this]
  rfl
theorem fera (g : Nat) (d2 : Int) (hd : 2 < d2) (w : World) (h : Has w g en2) :
    Calls Try.prog 12 #[fv 3 g, .agg #[.int .i64 0, .int .i64 d2]] w fun e w' => e = .returned (.tuple #[zv 0, .int .i64 1001]) ∧ Below w.heap.size w w' := by
  refine era_range (fc 3) (fp g) (0, d2) w (frowF 3 h) (ffit 3) rfl ?_
  show atD fl2 (0, d2) = none
  simp only [fl2, atD, dotX]
  rw [if_neg (by simp; omega), if_neg (by simp; omega)]
  rfl
theorem fat (g : Nat) (k : Int) (hk : k < 0 ∨ 1 ≤ k) (w : World) (h : Has w g en2) :
    Calls Try.prog 18 #[fv 3 g, .int .i64 k] w fun e w' => e = .returned (.tuple #[.agg #[.int .i64 0, .int .i64 0], .int .i64 1001]) ∧ Below w.heap.size w w' := by
  refine Calls.mono (rat_yes (fc 3) (fp g) k w (frowF 3 h) (ffit 3) rfl) ?_
  rintro e w' ⟨rfl, b⟩
  refine ⟨?_, b⟩
  have : atNum fl2 k = ((0, 0), 1001) := atNum_none (atI_none (by show k < 0 ∨ ((1 : Nat) : Int) ≤ k; omega))
  rw [show (fc 3).elems = fl2 from rfl, this]
theorem okF (k : Int) (en es et : Int) (ev : ByteArray) (eg : Bool) : (decide (k = 3) && okX fl2 ⟨en, es, et, ev, eg⟩) = (decide (k = 3) && (mayB en es 16 && (decide (1 ≤ et ∧ et ≤ 16777215) && (decide (ev.size ≤ 256) && (!eg && !hasX fl2 (en, es)))))) := rfl

set_option maxHeartbeats 16000000 in
set_option maxRecDepth 100000 in
theorem walk (which x : Int) (w : World) (_ : (Lit.int .i64 which).wf = true) (_ : (Lit.int .i64 x).wf = true) :
    Calls Try.prog 6 #[.int .i64 which, .int .i64 x] w fun e w' => e = .returned (.bool true) ∧ Below w.heap.size w w' := by
  obtain ⟨k, hk, ek⟩ := mod9 which
  obtain ⟨z, hz, ez⟩ : ∃ z : Nat, z < 64 ∧ bits .and .i64 x 63 = (z : Int) := and_mask x 6 (by omega)
  obtain ⟨i0, hi0, hz0, hz1, hz2⟩ := info_parts Try.infoByte
  obtain ⟨h, hh⟩ : ∃ h, w.heap.size = h := ⟨_, rfl⟩
  rw [hh]
  go_enter Try.func6, Try.ntmps6
  go_wp2_with fail
  refine (awake10_any _).mono ?_
  rintro e w1 ⟨rfl, b1⟩
  have H1 : Hid (Regs h w w1 []) := ⟨hh ▸ b1, by have := b1.size; omega⟩
  clear b1
  go_wp2_with fail
  refine (elem_any _ _ _ _ _).mono ?_
  rintro e w2 ⟨rfl, b2⟩
  obtain ⟨g, hg⟩ : ∃ g, w2.heap.size = g := ⟨_, rfl⟩
  have HG : Hid (h ≤ g) := by have := (H1.out.later b2).2; show h ≤ g; omega
  have H3 : Hid (Regs h w ((w2.alloc (.cells en2.toArray 34)).alloc (.cells (fl 3 g).toArray 30)) [(g + 1, fl 3 g), (g, en2)]) := Regs.push (Regs.push (H1.out.later b2) hg en2 _) (by simp [hg]) (fl 3 g) _
  clear b2 H1
  go_wp2_with fail
  refine (elem_any _ _ _ _ _).mono ?_
  rintro e w4 ⟨rfl, b4⟩
  obtain ⟨ke, hke⟩ : ∃ d, w4.heap.size = d := ⟨_, rfl⟩
  have l1 : g + 1 < ke := by have := (H3.out.later b4).1.1; omega
  have H4 : Hid (Regs h w ((w4.alloc (.cells [.int .i64 1, .int .i64 1, .int .i64 3, .string xB, .bool false].toArray 34)).alloc (.cells [.int .i64 0, .int .i64 2].toArray 32)) [(ke + 1, [.int .i64 0, .int .i64 2]), (ke, [.int .i64 1, .int .i64 1, .int .i64 3, .string xB, .bool false]), (g + 1, fl 3 g), (g, en2)]) := Regs.push (Regs.push (H3.out.later b4) hke _ _) (by simp [hke]) _ _
  clear b4 H3 hg
  go_upto_region 7 with fail
  generalize hW : (w4.alloc (.cells [.int .i64 1, .int .i64 1, .int .i64 3, .string xB, .bool false].toArray 34)).alloc (.cells [.int .i64 0, .int .i64 2].toArray 32) = u4 at H4 ⊢
  clear hW hke
  obtain ⟨t0, t1, t2, t3, t4, t5, t6, t7, t8, t9⟩ := H4.out.2.2.1.ten
  obtain ⟨y0, y1, y2, y3, y4⟩ := H4.out.2.1.five
  obtain ⟨r0, r1⟩ := H4.out.1.two
  go_wp2_with fail
  refine (fins_yes g _ H4.out.2.2.2.1).mono ?_
  rintro e w5 ⟨q5, rfl, b5⟩
  have H5 : Hid (Regs h w (w5.alloc (.cells (llL 3 q5).toArray 30)) [(ke + 1, [.int .i64 0, .int .i64 2]), (ke, [.int .i64 1, .int .i64 1, .int .i64 3, .string xB, .bool false]), (g + 1, fl 3 g), (g, en2)]) := (H4.out.later b5).later ((Below.refl _ _).alloc (Nat.le_refl _) _)
  obtain ⟨m, hm⟩ : ∃ m, w5.heap.size = m := ⟨_, rfl⟩
  clear H4 b5 t0 t1 t2 t3 t4 t5 t6 t7 t8 t9 y0 y1 y2 y3 y4 r0 r1
  go_upto_region 9 with fail
  generalize hW : w5.alloc (.cells (llL 3 q5).toArray 30) = u5 at H5 ⊢
  clear hW hm
  obtain ⟨t0, t1, t2, t3, t4, t5, t6, t7, t8, t9⟩ := H5.out.2.2.1.ten
  obtain ⟨y0, y1, y2, y3, y4⟩ := H5.out.2.1.five
  obtain ⟨r0, r1⟩ := H5.out.1.two
  have hgd1 : ¬ g + 1 = ke := by omega
  have hgd2 : ¬ ke = g + 1 := by omega
  have hgd3 : ¬ g + 1 = ke + 1 := by omega
  have hgd4 : ¬ ke + 1 = g + 1 := by omega
  have h9 : k = 0 ∨ k = 1 ∨ k = 2 ∨ k = 3 ∨ k = 4 ∨ k = 5 ∨ k = 6 ∨ k = 7 ∨ k = 8 := by omega
  clear hk
  rcases h9 with rfl | rfl | rfl | rfl | rfl | rfl | rfl | rfl | rfl
  · have f0 := (H5.out.2.2.1).free 0 rfl
    have H6 : Hid (Regs h w (u5.setCell ⟨g + 1, 0, none⟩ (.int .i64 (3 + (1 + (z : Int))))) [(ke + 1, [.int .i64 0, .int .i64 2]), (ke, [.int .i64 1, .int .i64 1, .int .i64 3, .string xB, .bool false]), (g + 1, fl (3 + (1 + (z : Int))) g), (g, en2)]) := ⟨(H5.out.1).other (k := g + 1) (by omega) _ _, (H5.out.2.1).other (k := g + 1) (by omega) _ _, (H5.out.2.2.1).put 0 _, (H5.out.2.2.2.1).other (k := g + 1) (by omega) _ _, (H5.out.base.1).setCell (p := ⟨g + 1, 0, none⟩) (by have := HG.out; show h ≤ g + 1; omega) _, by have := H5.out.base.2; simpa using this⟩
    clear H5
    go_upto_region 28 with fail
    generalize hW : u5.setCell ⟨g + 1, 0, none⟩ (.int .i64 (3 + (1 + (z : Int)))) = u6 at H6 ⊢
    clear hW
    clear t0 t1 t2 t3 t4 t5 t6 t7 t8 t9 y0 y1 y2 y3 y4 r0 r1
    obtain ⟨t0, t1, t2, t3, t4, t5, t6, t7, t8, t9⟩ := H6.out.2.2.1.ten
    obtain ⟨y0, y1, y2, y3, y4⟩ := H6.out.2.1.five
    obtain ⟨r0, r1⟩ := H6.out.1.two
    go_wp2_with fail
    refine (fins_no (3 + (1 + (z : Int))) g (1) (1) (3) xB false 0 (2) _ H6.out.2.2.2.1 (by decide +kernel) (by rw [okF]; simp only [mayB, Bool.and_eq_false_iff, decide_eq_false_iff_not, Bool.not_eq_false]; omega)).mono ?_
    rintro e w7 ⟨rfl, b7⟩
    obtain ⟨n, hn⟩ : ∃ n, w7.heap.size = n := ⟨_, rfl⟩
    have l4 : g + 1 < n := by have := (H6.out.later b7).2.2.1.1; omega
    have H7 : Hid (Regs h w (w7.alloc (.cells (zl 0).toArray 30)) ((n, zl 0) :: [(ke + 1, [.int .i64 0, .int .i64 2]), (ke, [.int .i64 1, .int .i64 1, .int .i64 3, .string xB, .bool false]), (g + 1, fl (3 + (1 + (z : Int))) g), (g, en2)])) := Regs.push (H6.out.later b7) hn _ _
    clear H6 b7 t0 t1 t2 t3 t4 t5 t6 t7 t8 t9 y0 y1 y2 y3 y4 r0 r1
    go_upto_region 29 with fail
    generalize hW : w7.alloc (.cells (zl 0).toArray 30) = u7 at H7 ⊢
    clear hW hn
    obtain ⟨t0, t1, t2, t3, t4, t5, t6, t7, t8, t9⟩ := H7.out.2.2.2.1.ten
    have f0 := H7.out.2.2.2.1.free 0 rfl
    have H8 : Hid (Regs h w (u7.setCell ⟨g + 1, 0, none⟩ (.int .i64 3)) [(n, zl 0), (g + 1, fl 3 g), (g, en2)]) := ⟨H7.out.1.other (k := g + 1) (by omega) _ _, (H7.out.2.2.2.1).put 0 _, (H7.out.2.2.2.2.1).other (k := g + 1) (by omega) _ _, H7.out.base.1.setCell (p := ⟨g + 1, 0, none⟩) (by have := HG.out; show h ≤ g + 1; omega) _, by have := H7.out.base.2; simpa using this⟩
    clear H7
    go_upto_region 30 with fail
    clear t0 t1 t2 t3 t4 t5 t6 t7 t8 t9 f0
    generalize hW : u7.setCell ⟨g + 1, 0, none⟩ (.int .i64 3) = u8 at H8 ⊢
    clear hW
    obtain ⟨t0, t1, t2, t3, t4, t5, t6, t7, t8, t9⟩ := H8.out.2.1.ten
    go_wp2_with fail
    refine (fera g (2 + (1 + (z : Int))) (by omega) _ H8.out.2.2.1).mono ?_
    rintro e w9 ⟨rfl, b9⟩
    have H9 : Hid (Regs h w (w9.alloc (.cells (zl 0).toArray 30)) [(n, zl 0), (g + 1, fl 3 g), (g, en2)]) := (H8.out.later b9).later ((Below.refl _ _).alloc (Nat.le_refl _) _)
    obtain ⟨n9, hn9⟩ : ∃ n, w9.heap.size = n := ⟨_, rfl⟩
    clear H8 b9 t0 t1 t2 t3 t4 t5 t6 t7 t8 t9
    go_upto_region 31 with fail
    generalize hW : w9.alloc (.cells (zl 0).toArray 30) = u9 at H9 ⊢
    clear hW hn9
    obtain ⟨t0, t1, t2, t3, t4, t5, t6, t7, t8, t9⟩ := H9.out.2.1.ten
    go_wp2_with fail
    refine (fat g (1 + (z : Int)) (by omega) _ H9.out.2.2.1).mono ?_
    rintro e w10 ⟨rfl, b10⟩
    have H10 : Hid (Regs h w (w10.alloc (.cells [.int .i64 0, .int .i64 0].toArray 32)) [(n, zl 0), (g + 1, fl 3 g), (g, en2)]) := (H9.out.later b10).later ((Below.refl _ _).alloc (Nat.le_refl _) _)
    obtain ⟨n10, hn10⟩ : ∃ n, w10.heap.size = n := ⟨_, rfl⟩
    clear H9 b10 t0 t1 t2 t3 t4 t5 t6 t7 t8 t9
    go_upto_region 32 with fail
    generalize hW : w10.alloc (.cells [.int .i64 0, .int .i64 0].toArray 32) = u10 at H10 ⊢
    clear hW hn10
    obtain ⟨t0, t1, t2, t3, t4, t5, t6, t7, t8, t9⟩ := H10.out.2.1.ten
    go_wp2_with fail
    refine (fat g (-(1 + (z : Int))) (by omega) _ H10.out.2.2.1).mono ?_
    rintro e w11 ⟨rfl, b11⟩
    have H11 : Hid (Regs h w (w11.alloc (.cells [.int .i64 0, .int .i64 0].toArray 32)) [(n, zl 0), (g + 1, fl 3 g), (g, en2)]) := (H10.out.later b11).later ((Below.refl _ _).alloc (Nat.le_refl _) _)
    obtain ⟨n11, hn11⟩ : ∃ n, w11.heap.size = n := ⟨_, rfl⟩
    clear H10 b11 t0 t1 t2 t3 t4 t5 t6 t7 t8 t9
    go_upto_region 33 with fail
    generalize hW : w11.alloc (.cells [.int .i64 0, .int .i64 0].toArray 32) = u11 at H11 ⊢
    clear hW hn11
    obtain ⟨t0, t1, t2, t3, t4, t5, t6, t7, t8, t9⟩ := H11.out.1.ten
    go_wp2_with (go_at_call 21; refine (num_any _ _).mono ?_; rintro e w0 ⟨rfl, hw0⟩; have hw1 := hw0.symm; clear hw0; subst hw1)
    refine (same_none _).mono ?_
    rintro e w12 ⟨rfl, b12⟩
    have H12 : Hid (Regs h w w12 []) := ⟨(H11.out.later b12).base.1, (H11.out.later b12).base.2⟩
    clear H11 b12 t0 t1 t2 t3 t4 t5 t6 t7 t8 t9
    go_wp2_with (go_at_call 21; refine (num_any _ _).mono ?_; rintro e w0 ⟨rfl, hw0⟩; have hw1 := hw0.symm; clear hw0; subst hw1)
    go_ret
    exact ⟨rfl, H12.out.1⟩
  · have f0 := (H5.out.2.1).free 0 rfl
    have H6 : Hid (Regs h w (u5.setCell ⟨ke, 0, none⟩ (.int .i64 (-(1 + (z : Int))))) [(ke + 1, [.int .i64 0, .int .i64 2]), (ke, [.int .i64 (-(1 + (z : Int))), .int .i64 1, .int .i64 3, .string xB, .bool false]), (g + 1, fl (3) g), (g, en2)]) := ⟨(H5.out.1).other (k := ke) (by omega) _ _, (H5.out.2.1).put 0 _, (H5.out.2.2.1).other (k := ke) (by omega) _ _, (H5.out.2.2.2.1).other (k := ke) (by omega) _ _, (H5.out.base.1).setCell (p := ⟨ke, 0, none⟩) (by have := HG.out; show h ≤ ke; omega) _, by have := H5.out.base.2; simpa using this⟩
    clear H5
    go_upto_region 28 with fail
    generalize hW : u5.setCell ⟨ke, 0, none⟩ (.int .i64 (-(1 + (z : Int)))) = u6 at H6 ⊢
    clear hW
    clear t0 t1 t2 t3 t4 t5 t6 t7 t8 t9 y0 y1 y2 y3 y4 r0 r1
    obtain ⟨t0, t1, t2, t3, t4, t5, t6, t7, t8, t9⟩ := H6.out.2.2.1.ten
    obtain ⟨y0, y1, y2, y3, y4⟩ := H6.out.2.1.five
    obtain ⟨r0, r1⟩ := H6.out.1.two
    go_wp2_with fail
    refine (fins_no (3) g ((-(1 + (z : Int)))) (1) (3) xB false 0 (2) _ H6.out.2.2.2.1 (by decide +kernel) (by rw [okF]; simp only [mayB, Bool.and_eq_false_iff, decide_eq_false_iff_not, Bool.not_eq_false]; omega)).mono ?_
    rintro e w7 ⟨rfl, b7⟩
    obtain ⟨n, hn⟩ : ∃ n, w7.heap.size = n := ⟨_, rfl⟩
    have l4 : g + 1 < n := by have := (H6.out.later b7).2.2.1.1; omega
    have H7 : Hid (Regs h w (w7.alloc (.cells (zl 0).toArray 30)) ((n, zl 0) :: [(ke + 1, [.int .i64 0, .int .i64 2]), (ke, [.int .i64 (-(1 + (z : Int))), .int .i64 1, .int .i64 3, .string xB, .bool false]), (g + 1, fl (3) g), (g, en2)])) := Regs.push (H6.out.later b7) hn _ _
    clear H6 b7 t0 t1 t2 t3 t4 t5 t6 t7 t8 t9 y0 y1 y2 y3 y4 r0 r1
    go_upto_region 29 with fail
    generalize hW : w7.alloc (.cells (zl 0).toArray 30) = u7 at H7 ⊢
    clear hW hn
    obtain ⟨t0, t1, t2, t3, t4, t5, t6, t7, t8, t9⟩ := H7.out.2.2.2.1.ten
    have f0 := H7.out.2.2.2.1.free 0 rfl
    have H8 : Hid (Regs h w (u7.setCell ⟨g + 1, 0, none⟩ (.int .i64 3)) [(n, zl 0), (g + 1, fl 3 g), (g, en2)]) := ⟨H7.out.1.other (k := g + 1) (by omega) _ _, (H7.out.2.2.2.1).put 0 _, (H7.out.2.2.2.2.1).other (k := g + 1) (by omega) _ _, H7.out.base.1.setCell (p := ⟨g + 1, 0, none⟩) (by have := HG.out; show h ≤ g + 1; omega) _, by have := H7.out.base.2; simpa using this⟩
    clear H7
    go_upto_region 30 with fail
    clear t0 t1 t2 t3 t4 t5 t6 t7 t8 t9 f0
    generalize hW : u7.setCell ⟨g + 1, 0, none⟩ (.int .i64 3) = u8 at H8 ⊢
    clear hW
    obtain ⟨t0, t1, t2, t3, t4, t5, t6, t7, t8, t9⟩ := H8.out.2.1.ten
    go_wp2_with fail
    refine (fera g (2 + (1 + (z : Int))) (by omega) _ H8.out.2.2.1).mono ?_
    rintro e w9 ⟨rfl, b9⟩
    have H9 : Hid (Regs h w (w9.alloc (.cells (zl 0).toArray 30)) [(n, zl 0), (g + 1, fl 3 g), (g, en2)]) := (H8.out.later b9).later ((Below.refl _ _).alloc (Nat.le_refl _) _)
    obtain ⟨n9, hn9⟩ : ∃ n, w9.heap.size = n := ⟨_, rfl⟩
    clear H8 b9 t0 t1 t2 t3 t4 t5 t6 t7 t8 t9
    go_upto_region 31 with fail
    generalize hW : w9.alloc (.cells (zl 0).toArray 30) = u9 at H9 ⊢
    clear hW hn9
    obtain ⟨t0, t1, t2, t3, t4, t5, t6, t7, t8, t9⟩ := H9.out.2.1.ten
    go_wp2_with fail
    refine (fat g (1 + (z : Int)) (by omega) _ H9.out.2.2.1).mono ?_
    rintro e w10 ⟨rfl, b10⟩
    have H10 : Hid (Regs h w (w10.alloc (.cells [.int .i64 0, .int .i64 0].toArray 32)) [(n, zl 0), (g + 1, fl 3 g), (g, en2)]) := (H9.out.later b10).later ((Below.refl _ _).alloc (Nat.le_refl _) _)
    obtain ⟨n10, hn10⟩ : ∃ n, w10.heap.size = n := ⟨_, rfl⟩
    clear H9 b10 t0 t1 t2 t3 t4 t5 t6 t7 t8 t9
    go_upto_region 32 with fail
    generalize hW : w10.alloc (.cells [.int .i64 0, .int .i64 0].toArray 32) = u10 at H10 ⊢
    clear hW hn10
    obtain ⟨t0, t1, t2, t3, t4, t5, t6, t7, t8, t9⟩ := H10.out.2.1.ten
    go_wp2_with fail
    refine (fat g (-(1 + (z : Int))) (by omega) _ H10.out.2.2.1).mono ?_
    rintro e w11 ⟨rfl, b11⟩
    have H11 : Hid (Regs h w (w11.alloc (.cells [.int .i64 0, .int .i64 0].toArray 32)) [(n, zl 0), (g + 1, fl 3 g), (g, en2)]) := (H10.out.later b11).later ((Below.refl _ _).alloc (Nat.le_refl _) _)
    obtain ⟨n11, hn11⟩ : ∃ n, w11.heap.size = n := ⟨_, rfl⟩
    clear H10 b11 t0 t1 t2 t3 t4 t5 t6 t7 t8 t9
    go_upto_region 33 with fail
    generalize hW : w11.alloc (.cells [.int .i64 0, .int .i64 0].toArray 32) = u11 at H11 ⊢
    clear hW hn11
    obtain ⟨t0, t1, t2, t3, t4, t5, t6, t7, t8, t9⟩ := H11.out.1.ten
    go_wp2_with (go_at_call 21; refine (num_any _ _).mono ?_; rintro e w0 ⟨rfl, hw0⟩; have hw1 := hw0.symm; clear hw0; subst hw1)
    refine (same_none _).mono ?_
    rintro e w12 ⟨rfl, b12⟩
    have H12 : Hid (Regs h w w12 []) := ⟨(H11.out.later b12).base.1, (H11.out.later b12).base.2⟩
    clear H11 b12 t0 t1 t2 t3 t4 t5 t6 t7 t8 t9
    go_wp2_with (go_at_call 21; refine (num_any _ _).mono ?_; rintro e w0 ⟨rfl, hw0⟩; have hw1 := hw0.symm; clear hw0; subst hw1)
    go_ret
    exact ⟨rfl, H12.out.1⟩
  · have f1 := (H5.out.2.1).free 1 rfl
    have H6 : Hid (Regs h w (u5.setCell ⟨ke, 1, none⟩ (.int .i64 (1 - (1 + (z : Int))))) [(ke + 1, [.int .i64 0, .int .i64 2]), (ke, [.int .i64 1, .int .i64 (1 - (1 + (z : Int))), .int .i64 3, .string xB, .bool false]), (g + 1, fl (3) g), (g, en2)]) := ⟨(H5.out.1).other (k := ke) (by omega) _ _, (H5.out.2.1).put 1 _, (H5.out.2.2.1).other (k := ke) (by omega) _ _, (H5.out.2.2.2.1).other (k := ke) (by omega) _ _, (H5.out.base.1).setCell (p := ⟨ke, 1, none⟩) (by have := HG.out; show h ≤ ke; omega) _, by have := H5.out.base.2; simpa using this⟩
    clear H5
    go_upto_region 28 with fail
    generalize hW : u5.setCell ⟨ke, 1, none⟩ (.int .i64 (1 - (1 + (z : Int)))) = u6 at H6 ⊢
    clear hW
    clear t0 t1 t2 t3 t4 t5 t6 t7 t8 t9 y0 y1 y2 y3 y4 r0 r1
    obtain ⟨t0, t1, t2, t3, t4, t5, t6, t7, t8, t9⟩ := H6.out.2.2.1.ten
    obtain ⟨y0, y1, y2, y3, y4⟩ := H6.out.2.1.five
    obtain ⟨r0, r1⟩ := H6.out.1.two
    go_wp2_with fail
    refine (fins_no (3) g (1) ((1 - (1 + (z : Int)))) (3) xB false 0 (2) _ H6.out.2.2.2.1 (by decide +kernel) (by rw [okF]; simp only [mayB, Bool.and_eq_false_iff, decide_eq_false_iff_not, Bool.not_eq_false]; omega)).mono ?_
    rintro e w7 ⟨rfl, b7⟩
    obtain ⟨n, hn⟩ : ∃ n, w7.heap.size = n := ⟨_, rfl⟩
    have l4 : g + 1 < n := by have := (H6.out.later b7).2.2.1.1; omega
    have H7 : Hid (Regs h w (w7.alloc (.cells (zl 0).toArray 30)) ((n, zl 0) :: [(ke + 1, [.int .i64 0, .int .i64 2]), (ke, [.int .i64 1, .int .i64 (1 - (1 + (z : Int))), .int .i64 3, .string xB, .bool false]), (g + 1, fl (3) g), (g, en2)])) := Regs.push (H6.out.later b7) hn _ _
    clear H6 b7 t0 t1 t2 t3 t4 t5 t6 t7 t8 t9 y0 y1 y2 y3 y4 r0 r1
    go_upto_region 29 with fail
    generalize hW : w7.alloc (.cells (zl 0).toArray 30) = u7 at H7 ⊢
    clear hW hn
    obtain ⟨t0, t1, t2, t3, t4, t5, t6, t7, t8, t9⟩ := H7.out.2.2.2.1.ten
    have f0 := H7.out.2.2.2.1.free 0 rfl
    have H8 : Hid (Regs h w (u7.setCell ⟨g + 1, 0, none⟩ (.int .i64 3)) [(n, zl 0), (g + 1, fl 3 g), (g, en2)]) := ⟨H7.out.1.other (k := g + 1) (by omega) _ _, (H7.out.2.2.2.1).put 0 _, (H7.out.2.2.2.2.1).other (k := g + 1) (by omega) _ _, H7.out.base.1.setCell (p := ⟨g + 1, 0, none⟩) (by have := HG.out; show h ≤ g + 1; omega) _, by have := H7.out.base.2; simpa using this⟩
    clear H7
    go_upto_region 30 with fail
    clear t0 t1 t2 t3 t4 t5 t6 t7 t8 t9 f0
    generalize hW : u7.setCell ⟨g + 1, 0, none⟩ (.int .i64 3) = u8 at H8 ⊢
    clear hW
    obtain ⟨t0, t1, t2, t3, t4, t5, t6, t7, t8, t9⟩ := H8.out.2.1.ten
    go_wp2_with fail
    refine (fera g (2 + (1 + (z : Int))) (by omega) _ H8.out.2.2.1).mono ?_
    rintro e w9 ⟨rfl, b9⟩
    have H9 : Hid (Regs h w (w9.alloc (.cells (zl 0).toArray 30)) [(n, zl 0), (g + 1, fl 3 g), (g, en2)]) := (H8.out.later b9).later ((Below.refl _ _).alloc (Nat.le_refl _) _)
    obtain ⟨n9, hn9⟩ : ∃ n, w9.heap.size = n := ⟨_, rfl⟩
    clear H8 b9 t0 t1 t2 t3 t4 t5 t6 t7 t8 t9
    go_upto_region 31 with fail
    generalize hW : w9.alloc (.cells (zl 0).toArray 30) = u9 at H9 ⊢
    clear hW hn9
    obtain ⟨t0, t1, t2, t3, t4, t5, t6, t7, t8, t9⟩ := H9.out.2.1.ten
    go_wp2_with fail
    refine (fat g (1 + (z : Int)) (by omega) _ H9.out.2.2.1).mono ?_
    rintro e w10 ⟨rfl, b10⟩
    have H10 : Hid (Regs h w (w10.alloc (.cells [.int .i64 0, .int .i64 0].toArray 32)) [(n, zl 0), (g + 1, fl 3 g), (g, en2)]) := (H9.out.later b10).later ((Below.refl _ _).alloc (Nat.le_refl _) _)
    obtain ⟨n10, hn10⟩ : ∃ n, w10.heap.size = n := ⟨_, rfl⟩
    clear H9 b10 t0 t1 t2 t3 t4 t5 t6 t7 t8 t9
    go_upto_region 32 with fail
    generalize hW : w10.alloc (.cells [.int .i64 0, .int .i64 0].toArray 32) = u10 at H10 ⊢
    clear hW hn10
    obtain ⟨t0, t1, t2, t3, t4, t5, t6, t7, t8, t9⟩ := H10.out.2.1.ten
    go_wp2_with fail
    refine (fat g (-(1 + (z : Int))) (by omega) _ H10.out.2.2.1).mono ?_
    rintro e w11 ⟨rfl, b11⟩
    have H11 : Hid (Regs h w (w11.alloc (.cells [.int .i64 0, .int .i64 0].toArray 32)) [(n, zl 0), (g + 1, fl 3 g), (g, en2)]) := (H10.out.later b11).later ((Below.refl _ _).alloc (Nat.le_refl _) _)
    obtain ⟨n11, hn11⟩ : ∃ n, w11.heap.size = n := ⟨_, rfl⟩
    clear H10 b11 t0 t1 t2 t3 t4 t5 t6 t7 t8 t9
    go_upto_region 33 with fail
    generalize hW : w11.alloc (.cells [.int .i64 0, .int .i64 0].toArray 32) = u11 at H11 ⊢
    clear hW hn11
    obtain ⟨t0, t1, t2, t3, t4, t5, t6, t7, t8, t9⟩ := H11.out.1.ten
    go_wp2_with (go_at_call 21; refine (num_any _ _).mono ?_; rintro e w0 ⟨rfl, hw0⟩; have hw1 := hw0.symm; clear hw0; subst hw1)
    refine (same_none _).mono ?_
    rintro e w12 ⟨rfl, b12⟩
    have H12 : Hid (Regs h w w12 []) := ⟨(H11.out.later b12).base.1, (H11.out.later b12).base.2⟩
    clear H11 b12 t0 t1 t2 t3 t4 t5 t6 t7 t8 t9
    go_wp2_with (go_at_call 21; refine (num_any _ _).mono ?_; rintro e w0 ⟨rfl, hw0⟩; have hw1 := hw0.symm; clear hw0; subst hw1)
    go_ret
    exact ⟨rfl, H12.out.1⟩
  · have f2 := (H5.out.2.1).free 2 rfl
    have H6 : Hid (Regs h w (u5.setCell ⟨ke, 2, none⟩ (.int .i64 (1 - (1 + (z : Int))))) [(ke + 1, [.int .i64 0, .int .i64 2]), (ke, [.int .i64 1, .int .i64 1, .int .i64 (1 - (1 + (z : Int))), .string xB, .bool false]), (g + 1, fl (3) g), (g, en2)]) := ⟨(H5.out.1).other (k := ke) (by omega) _ _, (H5.out.2.1).put 2 _, (H5.out.2.2.1).other (k := ke) (by omega) _ _, (H5.out.2.2.2.1).other (k := ke) (by omega) _ _, (H5.out.base.1).setCell (p := ⟨ke, 2, none⟩) (by have := HG.out; show h ≤ ke; omega) _, by have := H5.out.base.2; simpa using this⟩
    clear H5
    go_upto_region 28 with fail
    generalize hW : u5.setCell ⟨ke, 2, none⟩ (.int .i64 (1 - (1 + (z : Int)))) = u6 at H6 ⊢
    clear hW
    clear t0 t1 t2 t3 t4 t5 t6 t7 t8 t9 y0 y1 y2 y3 y4 r0 r1
    obtain ⟨t0, t1, t2, t3, t4, t5, t6, t7, t8, t9⟩ := H6.out.2.2.1.ten
    obtain ⟨y0, y1, y2, y3, y4⟩ := H6.out.2.1.five
    obtain ⟨r0, r1⟩ := H6.out.1.two
    go_wp2_with fail
    refine (fins_no (3) g (1) (1) ((1 - (1 + (z : Int)))) xB false 0 (2) _ H6.out.2.2.2.1 (by decide +kernel) (by rw [okF]; simp only [mayB, Bool.and_eq_false_iff, decide_eq_false_iff_not, Bool.not_eq_false]; omega)).mono ?_
    rintro e w7 ⟨rfl, b7⟩
    obtain ⟨n, hn⟩ : ∃ n, w7.heap.size = n := ⟨_, rfl⟩
    have l4 : g + 1 < n := by have := (H6.out.later b7).2.2.1.1; omega
    have H7 : Hid (Regs h w (w7.alloc (.cells (zl 0).toArray 30)) ((n, zl 0) :: [(ke + 1, [.int .i64 0, .int .i64 2]), (ke, [.int .i64 1, .int .i64 1, .int .i64 (1 - (1 + (z : Int))), .string xB, .bool false]), (g + 1, fl (3) g), (g, en2)])) := Regs.push (H6.out.later b7) hn _ _
    clear H6 b7 t0 t1 t2 t3 t4 t5 t6 t7 t8 t9 y0 y1 y2 y3 y4 r0 r1
    go_upto_region 29 with fail
    generalize hW : w7.alloc (.cells (zl 0).toArray 30) = u7 at H7 ⊢
    clear hW hn
    obtain ⟨t0, t1, t2, t3, t4, t5, t6, t7, t8, t9⟩ := H7.out.2.2.2.1.ten
    have f0 := H7.out.2.2.2.1.free 0 rfl
    have H8 : Hid (Regs h w (u7.setCell ⟨g + 1, 0, none⟩ (.int .i64 3)) [(n, zl 0), (g + 1, fl 3 g), (g, en2)]) := ⟨H7.out.1.other (k := g + 1) (by omega) _ _, (H7.out.2.2.2.1).put 0 _, (H7.out.2.2.2.2.1).other (k := g + 1) (by omega) _ _, H7.out.base.1.setCell (p := ⟨g + 1, 0, none⟩) (by have := HG.out; show h ≤ g + 1; omega) _, by have := H7.out.base.2; simpa using this⟩
    clear H7
    go_upto_region 30 with fail
    clear t0 t1 t2 t3 t4 t5 t6 t7 t8 t9 f0
    generalize hW : u7.setCell ⟨g + 1, 0, none⟩ (.int .i64 3) = u8 at H8 ⊢
    clear hW
    obtain ⟨t0, t1, t2, t3, t4, t5, t6, t7, t8, t9⟩ := H8.out.2.1.ten
    go_wp2_with fail
    refine (fera g (2 + (1 + (z : Int))) (by omega) _ H8.out.2.2.1).mono ?_
    rintro e w9 ⟨rfl, b9⟩
    have H9 : Hid (Regs h w (w9.alloc (.cells (zl 0).toArray 30)) [(n, zl 0), (g + 1, fl 3 g), (g, en2)]) := (H8.out.later b9).later ((Below.refl _ _).alloc (Nat.le_refl _) _)
    obtain ⟨n9, hn9⟩ : ∃ n, w9.heap.size = n := ⟨_, rfl⟩
    clear H8 b9 t0 t1 t2 t3 t4 t5 t6 t7 t8 t9
    go_upto_region 31 with fail
    generalize hW : w9.alloc (.cells (zl 0).toArray 30) = u9 at H9 ⊢
    clear hW hn9
    obtain ⟨t0, t1, t2, t3, t4, t5, t6, t7, t8, t9⟩ := H9.out.2.1.ten
    go_wp2_with fail
    refine (fat g (1 + (z : Int)) (by omega) _ H9.out.2.2.1).mono ?_
    rintro e w10 ⟨rfl, b10⟩
    have H10 : Hid (Regs h w (w10.alloc (.cells [.int .i64 0, .int .i64 0].toArray 32)) [(n, zl 0), (g + 1, fl 3 g), (g, en2)]) := (H9.out.later b10).later ((Below.refl _ _).alloc (Nat.le_refl _) _)
    obtain ⟨n10, hn10⟩ : ∃ n, w10.heap.size = n := ⟨_, rfl⟩
    clear H9 b10 t0 t1 t2 t3 t4 t5 t6 t7 t8 t9
    go_upto_region 32 with fail
    generalize hW : w10.alloc (.cells [.int .i64 0, .int .i64 0].toArray 32) = u10 at H10 ⊢
    clear hW hn10
    obtain ⟨t0, t1, t2, t3, t4, t5, t6, t7, t8, t9⟩ := H10.out.2.1.ten
    go_wp2_with fail
    refine (fat g (-(1 + (z : Int))) (by omega) _ H10.out.2.2.1).mono ?_
    rintro e w11 ⟨rfl, b11⟩
    have H11 : Hid (Regs h w (w11.alloc (.cells [.int .i64 0, .int .i64 0].toArray 32)) [(n, zl 0), (g + 1, fl 3 g), (g, en2)]) := (H10.out.later b11).later ((Below.refl _ _).alloc (Nat.le_refl _) _)
    obtain ⟨n11, hn11⟩ : ∃ n, w11.heap.size = n := ⟨_, rfl⟩
    clear H10 b11 t0 t1 t2 t3 t4 t5 t6 t7 t8 t9
    go_upto_region 33 with fail
    generalize hW : w11.alloc (.cells [.int .i64 0, .int .i64 0].toArray 32) = u11 at H11 ⊢
    clear hW hn11
    obtain ⟨t0, t1, t2, t3, t4, t5, t6, t7, t8, t9⟩ := H11.out.1.ten
    go_wp2_with (go_at_call 21; refine (num_any _ _).mono ?_; rintro e w0 ⟨rfl, hw0⟩; have hw1 := hw0.symm; clear hw0; subst hw1)
    refine (same_none _).mono ?_
    rintro e w12 ⟨rfl, b12⟩
    have H12 : Hid (Regs h w w12 []) := ⟨(H11.out.later b12).base.1, (H11.out.later b12).base.2⟩
    clear H11 b12 t0 t1 t2 t3 t4 t5 t6 t7 t8 t9
    go_wp2_with (go_at_call 21; refine (num_any _ _).mono ?_; rintro e w0 ⟨rfl, hw0⟩; have hw1 := hw0.symm; clear hw0; subst hw1)
    go_ret
    exact ⟨rfl, H12.out.1⟩
  · have f2 := (H5.out.2.1).free 2 rfl
    have H6 : Hid (Regs h w (u5.setCell ⟨ke, 2, none⟩ (.int .i64 (16777215 + (1 + (z : Int))))) [(ke + 1, [.int .i64 0, .int .i64 2]), (ke, [.int .i64 1, .int .i64 1, .int .i64 (16777215 + (1 + (z : Int))), .string xB, .bool false]), (g + 1, fl (3) g), (g, en2)]) := ⟨(H5.out.1).other (k := ke) (by omega) _ _, (H5.out.2.1).put 2 _, (H5.out.2.2.1).other (k := ke) (by omega) _ _, (H5.out.2.2.2.1).other (k := ke) (by omega) _ _, (H5.out.base.1).setCell (p := ⟨ke, 2, none⟩) (by have := HG.out; show h ≤ ke; omega) _, by have := H5.out.base.2; simpa using this⟩
    clear H5
    go_upto_region 28 with fail
    generalize hW : u5.setCell ⟨ke, 2, none⟩ (.int .i64 (16777215 + (1 + (z : Int)))) = u6 at H6 ⊢
    clear hW
    clear t0 t1 t2 t3 t4 t5 t6 t7 t8 t9 y0 y1 y2 y3 y4 r0 r1
    obtain ⟨t0, t1, t2, t3, t4, t5, t6, t7, t8, t9⟩ := H6.out.2.2.1.ten
    obtain ⟨y0, y1, y2, y3, y4⟩ := H6.out.2.1.five
    obtain ⟨r0, r1⟩ := H6.out.1.two
    go_wp2_with fail
    refine (fins_no (3) g (1) (1) ((16777215 + (1 + (z : Int)))) xB false 0 (2) _ H6.out.2.2.2.1 (by decide +kernel) (by rw [okF]; simp only [mayB, Bool.and_eq_false_iff, decide_eq_false_iff_not, Bool.not_eq_false]; omega)).mono ?_
    rintro e w7 ⟨rfl, b7⟩
    obtain ⟨n, hn⟩ : ∃ n, w7.heap.size = n := ⟨_, rfl⟩
    have l4 : g + 1 < n := by have := (H6.out.later b7).2.2.1.1; omega
    have H7 : Hid (Regs h w (w7.alloc (.cells (zl 0).toArray 30)) ((n, zl 0) :: [(ke + 1, [.int .i64 0, .int .i64 2]), (ke, [.int .i64 1, .int .i64 1, .int .i64 (16777215 + (1 + (z : Int))), .string xB, .bool false]), (g + 1, fl (3) g), (g, en2)])) := Regs.push (H6.out.later b7) hn _ _
    clear H6 b7 t0 t1 t2 t3 t4 t5 t6 t7 t8 t9 y0 y1 y2 y3 y4 r0 r1
    go_upto_region 29 with fail
    generalize hW : w7.alloc (.cells (zl 0).toArray 30) = u7 at H7 ⊢
    clear hW hn
    obtain ⟨t0, t1, t2, t3, t4, t5, t6, t7, t8, t9⟩ := H7.out.2.2.2.1.ten
    have f0 := H7.out.2.2.2.1.free 0 rfl
    have H8 : Hid (Regs h w (u7.setCell ⟨g + 1, 0, none⟩ (.int .i64 3)) [(n, zl 0), (g + 1, fl 3 g), (g, en2)]) := ⟨H7.out.1.other (k := g + 1) (by omega) _ _, (H7.out.2.2.2.1).put 0 _, (H7.out.2.2.2.2.1).other (k := g + 1) (by omega) _ _, H7.out.base.1.setCell (p := ⟨g + 1, 0, none⟩) (by have := HG.out; show h ≤ g + 1; omega) _, by have := H7.out.base.2; simpa using this⟩
    clear H7
    go_upto_region 30 with fail
    clear t0 t1 t2 t3 t4 t5 t6 t7 t8 t9 f0
    generalize hW : u7.setCell ⟨g + 1, 0, none⟩ (.int .i64 3) = u8 at H8 ⊢
    clear hW
    obtain ⟨t0, t1, t2, t3, t4, t5, t6, t7, t8, t9⟩ := H8.out.2.1.ten
    go_wp2_with fail
    refine (fera g (2 + (1 + (z : Int))) (by omega) _ H8.out.2.2.1).mono ?_
    rintro e w9 ⟨rfl, b9⟩
    have H9 : Hid (Regs h w (w9.alloc (.cells (zl 0).toArray 30)) [(n, zl 0), (g + 1, fl 3 g), (g, en2)]) := (H8.out.later b9).later ((Below.refl _ _).alloc (Nat.le_refl _) _)
    obtain ⟨n9, hn9⟩ : ∃ n, w9.heap.size = n := ⟨_, rfl⟩
    clear H8 b9 t0 t1 t2 t3 t4 t5 t6 t7 t8 t9
    go_upto_region 31 with fail
    generalize hW : w9.alloc (.cells (zl 0).toArray 30) = u9 at H9 ⊢
    clear hW hn9
    obtain ⟨t0, t1, t2, t3, t4, t5, t6, t7, t8, t9⟩ := H9.out.2.1.ten
    go_wp2_with fail
    refine (fat g (1 + (z : Int)) (by omega) _ H9.out.2.2.1).mono ?_
    rintro e w10 ⟨rfl, b10⟩
    have H10 : Hid (Regs h w (w10.alloc (.cells [.int .i64 0, .int .i64 0].toArray 32)) [(n, zl 0), (g + 1, fl 3 g), (g, en2)]) := (H9.out.later b10).later ((Below.refl _ _).alloc (Nat.le_refl _) _)
    obtain ⟨n10, hn10⟩ : ∃ n, w10.heap.size = n := ⟨_, rfl⟩
    clear H9 b10 t0 t1 t2 t3 t4 t5 t6 t7 t8 t9
    go_upto_region 32 with fail
    generalize hW : w10.alloc (.cells [.int .i64 0, .int .i64 0].toArray 32) = u10 at H10 ⊢
    clear hW hn10
    obtain ⟨t0, t1, t2, t3, t4, t5, t6, t7, t8, t9⟩ := H10.out.2.1.ten
    go_wp2_with fail
    refine (fat g (-(1 + (z : Int))) (by omega) _ H10.out.2.2.1).mono ?_
    rintro e w11 ⟨rfl, b11⟩
    have H11 : Hid (Regs h w (w11.alloc (.cells [.int .i64 0, .int .i64 0].toArray 32)) [(n, zl 0), (g + 1, fl 3 g), (g, en2)]) := (H10.out.later b11).later ((Below.refl _ _).alloc (Nat.le_refl _) _)
    obtain ⟨n11, hn11⟩ : ∃ n, w11.heap.size = n := ⟨_, rfl⟩
    clear H10 b11 t0 t1 t2 t3 t4 t5 t6 t7 t8 t9
    go_upto_region 33 with fail
    generalize hW : w11.alloc (.cells [.int .i64 0, .int .i64 0].toArray 32) = u11 at H11 ⊢
    clear hW hn11
    obtain ⟨t0, t1, t2, t3, t4, t5, t6, t7, t8, t9⟩ := H11.out.1.ten
    go_wp2_with (go_at_call 21; refine (num_any _ _).mono ?_; rintro e w0 ⟨rfl, hw0⟩; have hw1 := hw0.symm; clear hw0; subst hw1)
    refine (same_none _).mono ?_
    rintro e w12 ⟨rfl, b12⟩
    have H12 : Hid (Regs h w w12 []) := ⟨(H11.out.later b12).base.1, (H11.out.later b12).base.2⟩
    clear H11 b12 t0 t1 t2 t3 t4 t5 t6 t7 t8 t9
    go_wp2_with (go_at_call 21; refine (num_any _ _).mono ?_; rintro e w0 ⟨rfl, hw0⟩; have hw1 := hw0.symm; clear hw0; subst hw1)
    go_ret
    exact ⟨rfl, H12.out.1⟩
  · obtain ⟨n2, hn2⟩ : ∃ n2 : Nat, n2 = 256 + (1 + z) := ⟨_, rfl⟩
    obtain ⟨Y, hY⟩ : ∃ Y : ByteArray, Y = ⟨(List.replicate n2 (0 : UInt8)).toArray⟩ := ⟨_, rfl⟩
    have hYs : Y.size = n2 := by rw [← size_list, hY]; simp
    have HY : Hid (Y = ⟨(List.replicate n2 (0 : UInt8)).toArray⟩ ∧ Y.size = n2 ∧ n2 = 256 + (1 + z)) := ⟨hY, hYs, hn2⟩
    clear hY hYs hn2 t0 t1 t2 t3 t4 t5 t6 t7 t8 t9 y0 y1 y2 y3 y4 r0 r1
    go_upto_region 28 with (at_make; (refine wpList_make_full _ rfl _ _ 67 rfl u5.heap.size 5 i0 (.int .u8 0) 1 Try.underlying67 hi0 hz0 hz1 .i64 .i64 (256 + (1 + (z : Int))) (256 + (1 + (z : Int))) n2 rfl rfl ?c1 ?c2 ?c3 ?c4 (Nat.le_refl _) ?_; (case c1 => have := HY.out.2.2; omega); (case c2 => have := HY.out.2.2; omega); (case c3 => rw [hz2]; have := HY.out.2.2; omega); (case c4 => unfold maxLen; have := HY.out.2.2; omega); intro w6 hown hgrow; have hstr := zeros_string hown; rw [← HY.out.1] at hstr; have BB : Hid (Regs h w w6 [(ke + 1, [.int .i64 0, .int .i64 2]), (ke, [.int .i64 1, .int .i64 1, .int .i64 3, .string xB, .bool false]), (g + 1, fl 3 g), (g, en2)]) := H5.out.later ((Below.refl _ _).grown hgrow (Nat.le_refl _) (by simp)); clear hown hgrow; have y3 := BB.out.2.1.at 3 rfl; have f3 := BB.out.2.1.free 3 rfl))
    have H6 : Hid (Regs h w (w6.setCell ⟨ke, 3, none⟩ (.string Y)) [(ke + 1, [.int .i64 0, .int .i64 2]), (ke, [.int .i64 1, .int .i64 1, .int .i64 3, .string Y, .bool false]), (g + 1, fl (3) g), (g, en2)]) := ⟨BB.out.1.other (k := ke) (by omega) _ _, BB.out.2.1.put 3 _, BB.out.2.2.1.other (k := ke) (by omega) _ _, BB.out.2.2.2.1.other (k := ke) (by omega) _ _, BB.out.base.1.setCell (p := ⟨ke, 3, none⟩) (by have := HG.out; show h ≤ ke; omega) _, by have := BB.out.base.2; simpa using this⟩
    clear BB y3 f3 hstr H5
    generalize hW : w6.setCell ⟨ke, 3, none⟩ (.string Y) = u6 at H6 ⊢
    clear hW
    obtain ⟨t0, t1, t2, t3, t4, t5, t6, t7, t8, t9⟩ := H6.out.2.2.1.ten
    obtain ⟨y0, y1, y2, y3, y4⟩ := H6.out.2.1.five
    obtain ⟨r0, r1⟩ := H6.out.1.two
    go_wp2_with fail
    refine (fins_no 3 g 1 1 3 Y false 0 2 _ H6.out.2.2.2.1 (by have := HY.out.2.1; have := HY.out.2.2; unfold maxLen; omega) (by rw [okF]; have := HY.out.2.1; have := HY.out.2.2; simp only [Bool.and_eq_false_iff, decide_eq_false_iff_not]; omega)).mono ?_
    rintro e w7 ⟨rfl, b7⟩
    obtain ⟨n, hn⟩ : ∃ n, w7.heap.size = n := ⟨_, rfl⟩
    have l4 : g + 1 < n := by have := (H6.out.later b7).2.2.1.1; omega
    have H7 : Hid (Regs h w (w7.alloc (.cells (zl 0).toArray 30)) ((n, zl 0) :: [(ke + 1, [.int .i64 0, .int .i64 2]), (ke, [.int .i64 1, .int .i64 1, .int .i64 3, .string Y, .bool false]), (g + 1, fl (3) g), (g, en2)])) := Regs.push (H6.out.later b7) hn _ _
    clear H6 b7 t0 t1 t2 t3 t4 t5 t6 t7 t8 t9 y0 y1 y2 y3 y4 r0 r1
    go_upto_region 29 with fail
    generalize hW : w7.alloc (.cells (zl 0).toArray 30) = u7 at H7 ⊢
    clear hW hn
    obtain ⟨t0, t1, t2, t3, t4, t5, t6, t7, t8, t9⟩ := H7.out.2.2.2.1.ten
    have f0 := H7.out.2.2.2.1.free 0 rfl
    have H8 : Hid (Regs h w (u7.setCell ⟨g + 1, 0, none⟩ (.int .i64 3)) [(n, zl 0), (g + 1, fl 3 g), (g, en2)]) := ⟨H7.out.1.other (k := g + 1) (by omega) _ _, (H7.out.2.2.2.1).put 0 _, (H7.out.2.2.2.2.1).other (k := g + 1) (by omega) _ _, H7.out.base.1.setCell (p := ⟨g + 1, 0, none⟩) (by have := HG.out; show h ≤ g + 1; omega) _, by have := H7.out.base.2; simpa using this⟩
    clear H7
    go_upto_region 30 with fail
    clear t0 t1 t2 t3 t4 t5 t6 t7 t8 t9 f0
    generalize hW : u7.setCell ⟨g + 1, 0, none⟩ (.int .i64 3) = u8 at H8 ⊢
    clear hW
    obtain ⟨t0, t1, t2, t3, t4, t5, t6, t7, t8, t9⟩ := H8.out.2.1.ten
    go_wp2_with fail
    refine (fera g (2 + (1 + (z : Int))) (by omega) _ H8.out.2.2.1).mono ?_
    rintro e w9 ⟨rfl, b9⟩
    have H9 : Hid (Regs h w (w9.alloc (.cells (zl 0).toArray 30)) [(n, zl 0), (g + 1, fl 3 g), (g, en2)]) := (H8.out.later b9).later ((Below.refl _ _).alloc (Nat.le_refl _) _)
    obtain ⟨n9, hn9⟩ : ∃ n, w9.heap.size = n := ⟨_, rfl⟩
    clear H8 b9 t0 t1 t2 t3 t4 t5 t6 t7 t8 t9
    go_upto_region 31 with fail
    generalize hW : w9.alloc (.cells (zl 0).toArray 30) = u9 at H9 ⊢
    clear hW hn9
    obtain ⟨t0, t1, t2, t3, t4, t5, t6, t7, t8, t9⟩ := H9.out.2.1.ten
    go_wp2_with fail
    refine (fat g (1 + (z : Int)) (by omega) _ H9.out.2.2.1).mono ?_
    rintro e w10 ⟨rfl, b10⟩
    have H10 : Hid (Regs h w (w10.alloc (.cells [.int .i64 0, .int .i64 0].toArray 32)) [(n, zl 0), (g + 1, fl 3 g), (g, en2)]) := (H9.out.later b10).later ((Below.refl _ _).alloc (Nat.le_refl _) _)
    obtain ⟨n10, hn10⟩ : ∃ n, w10.heap.size = n := ⟨_, rfl⟩
    clear H9 b10 t0 t1 t2 t3 t4 t5 t6 t7 t8 t9
    go_upto_region 32 with fail
    generalize hW : w10.alloc (.cells [.int .i64 0, .int .i64 0].toArray 32) = u10 at H10 ⊢
    clear hW hn10
    obtain ⟨t0, t1, t2, t3, t4, t5, t6, t7, t8, t9⟩ := H10.out.2.1.ten
    go_wp2_with fail
    refine (fat g (-(1 + (z : Int))) (by omega) _ H10.out.2.2.1).mono ?_
    rintro e w11 ⟨rfl, b11⟩
    have H11 : Hid (Regs h w (w11.alloc (.cells [.int .i64 0, .int .i64 0].toArray 32)) [(n, zl 0), (g + 1, fl 3 g), (g, en2)]) := (H10.out.later b11).later ((Below.refl _ _).alloc (Nat.le_refl _) _)
    obtain ⟨n11, hn11⟩ : ∃ n, w11.heap.size = n := ⟨_, rfl⟩
    clear H10 b11 t0 t1 t2 t3 t4 t5 t6 t7 t8 t9
    go_upto_region 33 with fail
    generalize hW : w11.alloc (.cells [.int .i64 0, .int .i64 0].toArray 32) = u11 at H11 ⊢
    clear hW hn11
    obtain ⟨t0, t1, t2, t3, t4, t5, t6, t7, t8, t9⟩ := H11.out.1.ten
    go_wp2_with (go_at_call 21; refine (num_any _ _).mono ?_; rintro e w0 ⟨rfl, hw0⟩; have hw1 := hw0.symm; clear hw0; subst hw1)
    refine (same_none _).mono ?_
    rintro e w12 ⟨rfl, b12⟩
    have H12 : Hid (Regs h w w12 []) := ⟨(H11.out.later b12).base.1, (H11.out.later b12).base.2⟩
    clear H11 b12 t0 t1 t2 t3 t4 t5 t6 t7 t8 t9
    go_wp2_with (go_at_call 21; refine (num_any _ _).mono ?_; rintro e w0 ⟨rfl, hw0⟩; have hw1 := hw0.symm; clear hw0; subst hw1)
    go_ret
    exact ⟨rfl, H12.out.1⟩
  · have f4 := (H5.out.2.1).free 4 rfl
    have H6 : Hid (Regs h w (u5.setCell ⟨ke, 4, none⟩ (.bool true)) [(ke + 1, [.int .i64 0, .int .i64 2]), (ke, [.int .i64 1, .int .i64 1, .int .i64 3, .string xB, .bool true]), (g + 1, fl (3) g), (g, en2)]) := ⟨(H5.out.1).other (k := ke) (by omega) _ _, (H5.out.2.1).put 4 _, (H5.out.2.2.1).other (k := ke) (by omega) _ _, (H5.out.2.2.2.1).other (k := ke) (by omega) _ _, (H5.out.base.1).setCell (p := ⟨ke, 4, none⟩) (by have := HG.out; show h ≤ ke; omega) _, by have := H5.out.base.2; simpa using this⟩
    clear H5
    go_upto_region 28 with fail
    generalize hW : u5.setCell ⟨ke, 4, none⟩ (.bool true) = u6 at H6 ⊢
    clear hW
    clear t0 t1 t2 t3 t4 t5 t6 t7 t8 t9 y0 y1 y2 y3 y4 r0 r1
    obtain ⟨t0, t1, t2, t3, t4, t5, t6, t7, t8, t9⟩ := H6.out.2.2.1.ten
    obtain ⟨y0, y1, y2, y3, y4⟩ := H6.out.2.1.five
    obtain ⟨r0, r1⟩ := H6.out.1.two
    go_wp2_with fail
    refine (fins_no (3) g (1) (1) (3) xB true 0 (2) _ H6.out.2.2.2.1 (by decide +kernel) (by decide +kernel)).mono ?_
    rintro e w7 ⟨rfl, b7⟩
    obtain ⟨n, hn⟩ : ∃ n, w7.heap.size = n := ⟨_, rfl⟩
    have l4 : g + 1 < n := by have := (H6.out.later b7).2.2.1.1; omega
    have H7 : Hid (Regs h w (w7.alloc (.cells (zl 0).toArray 30)) ((n, zl 0) :: [(ke + 1, [.int .i64 0, .int .i64 2]), (ke, [.int .i64 1, .int .i64 1, .int .i64 3, .string xB, .bool true]), (g + 1, fl (3) g), (g, en2)])) := Regs.push (H6.out.later b7) hn _ _
    clear H6 b7 t0 t1 t2 t3 t4 t5 t6 t7 t8 t9 y0 y1 y2 y3 y4 r0 r1
    go_upto_region 29 with fail
    generalize hW : w7.alloc (.cells (zl 0).toArray 30) = u7 at H7 ⊢
    clear hW hn
    obtain ⟨t0, t1, t2, t3, t4, t5, t6, t7, t8, t9⟩ := H7.out.2.2.2.1.ten
    have f0 := H7.out.2.2.2.1.free 0 rfl
    have H8 : Hid (Regs h w (u7.setCell ⟨g + 1, 0, none⟩ (.int .i64 3)) [(n, zl 0), (g + 1, fl 3 g), (g, en2)]) := ⟨H7.out.1.other (k := g + 1) (by omega) _ _, (H7.out.2.2.2.1).put 0 _, (H7.out.2.2.2.2.1).other (k := g + 1) (by omega) _ _, H7.out.base.1.setCell (p := ⟨g + 1, 0, none⟩) (by have := HG.out; show h ≤ g + 1; omega) _, by have := H7.out.base.2; simpa using this⟩
    clear H7
    go_upto_region 30 with fail
    clear t0 t1 t2 t3 t4 t5 t6 t7 t8 t9 f0
    generalize hW : u7.setCell ⟨g + 1, 0, none⟩ (.int .i64 3) = u8 at H8 ⊢
    clear hW
    obtain ⟨t0, t1, t2, t3, t4, t5, t6, t7, t8, t9⟩ := H8.out.2.1.ten
    go_wp2_with fail
    refine (fera g (2 + (1 + (z : Int))) (by omega) _ H8.out.2.2.1).mono ?_
    rintro e w9 ⟨rfl, b9⟩
    have H9 : Hid (Regs h w (w9.alloc (.cells (zl 0).toArray 30)) [(n, zl 0), (g + 1, fl 3 g), (g, en2)]) := (H8.out.later b9).later ((Below.refl _ _).alloc (Nat.le_refl _) _)
    obtain ⟨n9, hn9⟩ : ∃ n, w9.heap.size = n := ⟨_, rfl⟩
    clear H8 b9 t0 t1 t2 t3 t4 t5 t6 t7 t8 t9
    go_upto_region 31 with fail
    generalize hW : w9.alloc (.cells (zl 0).toArray 30) = u9 at H9 ⊢
    clear hW hn9
    obtain ⟨t0, t1, t2, t3, t4, t5, t6, t7, t8, t9⟩ := H9.out.2.1.ten
    go_wp2_with fail
    refine (fat g (1 + (z : Int)) (by omega) _ H9.out.2.2.1).mono ?_
    rintro e w10 ⟨rfl, b10⟩
    have H10 : Hid (Regs h w (w10.alloc (.cells [.int .i64 0, .int .i64 0].toArray 32)) [(n, zl 0), (g + 1, fl 3 g), (g, en2)]) := (H9.out.later b10).later ((Below.refl _ _).alloc (Nat.le_refl _) _)
    obtain ⟨n10, hn10⟩ : ∃ n, w10.heap.size = n := ⟨_, rfl⟩
    clear H9 b10 t0 t1 t2 t3 t4 t5 t6 t7 t8 t9
    go_upto_region 32 with fail
    generalize hW : w10.alloc (.cells [.int .i64 0, .int .i64 0].toArray 32) = u10 at H10 ⊢
    clear hW hn10
    obtain ⟨t0, t1, t2, t3, t4, t5, t6, t7, t8, t9⟩ := H10.out.2.1.ten
    go_wp2_with fail
    refine (fat g (-(1 + (z : Int))) (by omega) _ H10.out.2.2.1).mono ?_
    rintro e w11 ⟨rfl, b11⟩
    have H11 : Hid (Regs h w (w11.alloc (.cells [.int .i64 0, .int .i64 0].toArray 32)) [(n, zl 0), (g + 1, fl 3 g), (g, en2)]) := (H10.out.later b11).later ((Below.refl _ _).alloc (Nat.le_refl _) _)
    obtain ⟨n11, hn11⟩ : ∃ n, w11.heap.size = n := ⟨_, rfl⟩
    clear H10 b11 t0 t1 t2 t3 t4 t5 t6 t7 t8 t9
    go_upto_region 33 with fail
    generalize hW : w11.alloc (.cells [.int .i64 0, .int .i64 0].toArray 32) = u11 at H11 ⊢
    clear hW hn11
    obtain ⟨t0, t1, t2, t3, t4, t5, t6, t7, t8, t9⟩ := H11.out.1.ten
    go_wp2_with (go_at_call 21; refine (num_any _ _).mono ?_; rintro e w0 ⟨rfl, hw0⟩; have hw1 := hw0.symm; clear hw0; subst hw1)
    refine (same_none _).mono ?_
    rintro e w12 ⟨rfl, b12⟩
    have H12 : Hid (Regs h w w12 []) := ⟨(H11.out.later b12).base.1, (H11.out.later b12).base.2⟩
    clear H11 b12 t0 t1 t2 t3 t4 t5 t6 t7 t8 t9
    go_wp2_with (go_at_call 21; refine (num_any _ _).mono ?_; rintro e w0 ⟨rfl, hw0⟩; have hw1 := hw0.symm; clear hw0; subst hw1)
    go_ret
    exact ⟨rfl, H12.out.1⟩
  · have f0 := (H5.out.2.1).free 0 rfl
    have f1 := (H5.out.2.1).free 1 rfl
    have H6 : Hid (Regs h w ((u5.setCell ⟨ke, 0, none⟩ (.int .i64 0)).setCell ⟨ke, 1, none⟩ (.int .i64 2)) [(ke + 1, [.int .i64 0, .int .i64 2]), (ke, [.int .i64 0, .int .i64 2, .int .i64 3, .string xB, .bool false]), (g + 1, fl (3) g), (g, en2)]) := ⟨((H5.out.1).other (k := ke) (by omega) _ _).other (k := ke) (by omega) _ _, ((H5.out.2.1).put 0 _).put 1 _, ((H5.out.2.2.1).other (k := ke) (by omega) _ _).other (k := ke) (by omega) _ _, ((H5.out.2.2.2.1).other (k := ke) (by omega) _ _).other (k := ke) (by omega) _ _, ((H5.out.base.1).setCell (p := ⟨ke, 0, none⟩) (by have := HG.out; show h ≤ ke; omega) _).setCell (p := ⟨ke, 1, none⟩) (by have := HG.out; show h ≤ ke; omega) _, by have := H5.out.base.2; simpa using this⟩
    clear H5
    go_upto_region 28 with fail
    generalize hW : (u5.setCell ⟨ke, 0, none⟩ (.int .i64 0)).setCell ⟨ke, 1, none⟩ (.int .i64 2) = u6 at H6 ⊢
    clear hW
    clear t0 t1 t2 t3 t4 t5 t6 t7 t8 t9 y0 y1 y2 y3 y4 r0 r1
    obtain ⟨t0, t1, t2, t3, t4, t5, t6, t7, t8, t9⟩ := H6.out.2.2.1.ten
    obtain ⟨y0, y1, y2, y3, y4⟩ := H6.out.2.1.five
    obtain ⟨r0, r1⟩ := H6.out.1.two
    go_wp2_with fail
    refine (fins_no (3) g (0) (2) (3) xB false 0 (2) _ H6.out.2.2.2.1 (by decide +kernel) (by decide +kernel)).mono ?_
    rintro e w7 ⟨rfl, b7⟩
    obtain ⟨n, hn⟩ : ∃ n, w7.heap.size = n := ⟨_, rfl⟩
    have l4 : g + 1 < n := by have := (H6.out.later b7).2.2.1.1; omega
    have H7 : Hid (Regs h w (w7.alloc (.cells (zl 0).toArray 30)) ((n, zl 0) :: [(ke + 1, [.int .i64 0, .int .i64 2]), (ke, [.int .i64 0, .int .i64 2, .int .i64 3, .string xB, .bool false]), (g + 1, fl (3) g), (g, en2)])) := Regs.push (H6.out.later b7) hn _ _
    clear H6 b7 t0 t1 t2 t3 t4 t5 t6 t7 t8 t9 y0 y1 y2 y3 y4 r0 r1
    go_upto_region 29 with fail
    generalize hW : w7.alloc (.cells (zl 0).toArray 30) = u7 at H7 ⊢
    clear hW hn
    obtain ⟨t0, t1, t2, t3, t4, t5, t6, t7, t8, t9⟩ := H7.out.2.2.2.1.ten
    have f0 := H7.out.2.2.2.1.free 0 rfl
    have H8 : Hid (Regs h w (u7.setCell ⟨g + 1, 0, none⟩ (.int .i64 3)) [(n, zl 0), (g + 1, fl 3 g), (g, en2)]) := ⟨H7.out.1.other (k := g + 1) (by omega) _ _, (H7.out.2.2.2.1).put 0 _, (H7.out.2.2.2.2.1).other (k := g + 1) (by omega) _ _, H7.out.base.1.setCell (p := ⟨g + 1, 0, none⟩) (by have := HG.out; show h ≤ g + 1; omega) _, by have := H7.out.base.2; simpa using this⟩
    clear H7
    go_upto_region 30 with fail
    clear t0 t1 t2 t3 t4 t5 t6 t7 t8 t9 f0
    generalize hW : u7.setCell ⟨g + 1, 0, none⟩ (.int .i64 3) = u8 at H8 ⊢
    clear hW
    obtain ⟨t0, t1, t2, t3, t4, t5, t6, t7, t8, t9⟩ := H8.out.2.1.ten
    go_wp2_with fail
    refine (fera g (2 + (1 + (z : Int))) (by omega) _ H8.out.2.2.1).mono ?_
    rintro e w9 ⟨rfl, b9⟩
    have H9 : Hid (Regs h w (w9.alloc (.cells (zl 0).toArray 30)) [(n, zl 0), (g + 1, fl 3 g), (g, en2)]) := (H8.out.later b9).later ((Below.refl _ _).alloc (Nat.le_refl _) _)
    obtain ⟨n9, hn9⟩ : ∃ n, w9.heap.size = n := ⟨_, rfl⟩
    clear H8 b9 t0 t1 t2 t3 t4 t5 t6 t7 t8 t9
    go_upto_region 31 with fail
    generalize hW : w9.alloc (.cells (zl 0).toArray 30) = u9 at H9 ⊢
    clear hW hn9
    obtain ⟨t0, t1, t2, t3, t4, t5, t6, t7, t8, t9⟩ := H9.out.2.1.ten
    go_wp2_with fail
    refine (fat g (1 + (z : Int)) (by omega) _ H9.out.2.2.1).mono ?_
    rintro e w10 ⟨rfl, b10⟩
    have H10 : Hid (Regs h w (w10.alloc (.cells [.int .i64 0, .int .i64 0].toArray 32)) [(n, zl 0), (g + 1, fl 3 g), (g, en2)]) := (H9.out.later b10).later ((Below.refl _ _).alloc (Nat.le_refl _) _)
    obtain ⟨n10, hn10⟩ : ∃ n, w10.heap.size = n := ⟨_, rfl⟩
    clear H9 b10 t0 t1 t2 t3 t4 t5 t6 t7 t8 t9
    go_upto_region 32 with fail
    generalize hW : w10.alloc (.cells [.int .i64 0, .int .i64 0].toArray 32) = u10 at H10 ⊢
    clear hW hn10
    obtain ⟨t0, t1, t2, t3, t4, t5, t6, t7, t8, t9⟩ := H10.out.2.1.ten
    go_wp2_with fail
    refine (fat g (-(1 + (z : Int))) (by omega) _ H10.out.2.2.1).mono ?_
    rintro e w11 ⟨rfl, b11⟩
    have H11 : Hid (Regs h w (w11.alloc (.cells [.int .i64 0, .int .i64 0].toArray 32)) [(n, zl 0), (g + 1, fl 3 g), (g, en2)]) := (H10.out.later b11).later ((Below.refl _ _).alloc (Nat.le_refl _) _)
    obtain ⟨n11, hn11⟩ : ∃ n, w11.heap.size = n := ⟨_, rfl⟩
    clear H10 b11 t0 t1 t2 t3 t4 t5 t6 t7 t8 t9
    go_upto_region 33 with fail
    generalize hW : w11.alloc (.cells [.int .i64 0, .int .i64 0].toArray 32) = u11 at H11 ⊢
    clear hW hn11
    obtain ⟨t0, t1, t2, t3, t4, t5, t6, t7, t8, t9⟩ := H11.out.1.ten
    go_wp2_with (go_at_call 21; refine (num_any _ _).mono ?_; rintro e w0 ⟨rfl, hw0⟩; have hw1 := hw0.symm; clear hw0; subst hw1)
    refine (same_none _).mono ?_
    rintro e w12 ⟨rfl, b12⟩
    have H12 : Hid (Regs h w w12 []) := ⟨(H11.out.later b12).base.1, (H11.out.later b12).base.2⟩
    clear H11 b12 t0 t1 t2 t3 t4 t5 t6 t7 t8 t9
    go_wp2_with (go_at_call 21; refine (num_any _ _).mono ?_; rintro e w0 ⟨rfl, hw0⟩; have hw1 := hw0.symm; clear hw0; subst hw1)
    go_ret
    exact ⟨rfl, H12.out.1⟩
  · have f1 := (H5.out.1).free 1 rfl
    have H6 : Hid (Regs h w (u5.setCell ⟨ke + 1, 1, none⟩ (.int .i64 (2 + (1 + (z : Int))))) [(ke + 1, [.int .i64 0, .int .i64 (2 + (1 + (z : Int)))]), (ke, [.int .i64 1, .int .i64 1, .int .i64 3, .string xB, .bool false]), (g + 1, fl (3) g), (g, en2)]) := ⟨(H5.out.1).put 1 _, (H5.out.2.1).other (k := ke + 1) (by omega) _ _, (H5.out.2.2.1).other (k := ke + 1) (by omega) _ _, (H5.out.2.2.2.1).other (k := ke + 1) (by omega) _ _, (H5.out.base.1).setCell (p := ⟨ke + 1, 1, none⟩) (by have := HG.out; show h ≤ ke + 1; omega) _, by have := H5.out.base.2; simpa using this⟩
    clear H5
    go_upto_region 28 with fail
    generalize hW : u5.setCell ⟨ke + 1, 1, none⟩ (.int .i64 (2 + (1 + (z : Int)))) = u6 at H6 ⊢
    clear hW
    clear t0 t1 t2 t3 t4 t5 t6 t7 t8 t9 y0 y1 y2 y3 y4 r0 r1
    obtain ⟨t0, t1, t2, t3, t4, t5, t6, t7, t8, t9⟩ := H6.out.2.2.1.ten
    obtain ⟨y0, y1, y2, y3, y4⟩ := H6.out.2.1.five
    obtain ⟨r0, r1⟩ := H6.out.1.two
    go_wp2_with fail
    refine (fins_range g (2 + (1 + (z : Int))) (by omega) _ H6.out.2.2.2.1).mono ?_
    rintro e w7 ⟨rfl, b7⟩
    obtain ⟨n, hn⟩ : ∃ n, w7.heap.size = n := ⟨_, rfl⟩
    have l4 : g + 1 < n := by have := (H6.out.later b7).2.2.1.1; omega
    have H7 : Hid (Regs h w (w7.alloc (.cells (zl 0).toArray 30)) ((n, zl 0) :: [(ke + 1, [.int .i64 0, .int .i64 (2 + (1 + (z : Int)))]), (ke, [.int .i64 1, .int .i64 1, .int .i64 3, .string xB, .bool false]), (g + 1, fl (3) g), (g, en2)])) := Regs.push (H6.out.later b7) hn _ _
    clear H6 b7 t0 t1 t2 t3 t4 t5 t6 t7 t8 t9 y0 y1 y2 y3 y4 r0 r1
    go_upto_region 29 with fail
    generalize hW : w7.alloc (.cells (zl 0).toArray 30) = u7 at H7 ⊢
    clear hW hn
    obtain ⟨t0, t1, t2, t3, t4, t5, t6, t7, t8, t9⟩ := H7.out.2.2.2.1.ten
    have f0 := H7.out.2.2.2.1.free 0 rfl
    have H8 : Hid (Regs h w (u7.setCell ⟨g + 1, 0, none⟩ (.int .i64 3)) [(n, zl 0), (g + 1, fl 3 g), (g, en2)]) := ⟨H7.out.1.other (k := g + 1) (by omega) _ _, (H7.out.2.2.2.1).put 0 _, (H7.out.2.2.2.2.1).other (k := g + 1) (by omega) _ _, H7.out.base.1.setCell (p := ⟨g + 1, 0, none⟩) (by have := HG.out; show h ≤ g + 1; omega) _, by have := H7.out.base.2; simpa using this⟩
    clear H7
    go_upto_region 30 with fail
    clear t0 t1 t2 t3 t4 t5 t6 t7 t8 t9 f0
    generalize hW : u7.setCell ⟨g + 1, 0, none⟩ (.int .i64 3) = u8 at H8 ⊢
    clear hW
    obtain ⟨t0, t1, t2, t3, t4, t5, t6, t7, t8, t9⟩ := H8.out.2.1.ten
    go_wp2_with fail
    refine (fera g (2 + (1 + (z : Int))) (by omega) _ H8.out.2.2.1).mono ?_
    rintro e w9 ⟨rfl, b9⟩
    have H9 : Hid (Regs h w (w9.alloc (.cells (zl 0).toArray 30)) [(n, zl 0), (g + 1, fl 3 g), (g, en2)]) := (H8.out.later b9).later ((Below.refl _ _).alloc (Nat.le_refl _) _)
    obtain ⟨n9, hn9⟩ : ∃ n, w9.heap.size = n := ⟨_, rfl⟩
    clear H8 b9 t0 t1 t2 t3 t4 t5 t6 t7 t8 t9
    go_upto_region 31 with fail
    generalize hW : w9.alloc (.cells (zl 0).toArray 30) = u9 at H9 ⊢
    clear hW hn9
    obtain ⟨t0, t1, t2, t3, t4, t5, t6, t7, t8, t9⟩ := H9.out.2.1.ten
    go_wp2_with fail
    refine (fat g (1 + (z : Int)) (by omega) _ H9.out.2.2.1).mono ?_
    rintro e w10 ⟨rfl, b10⟩
    have H10 : Hid (Regs h w (w10.alloc (.cells [.int .i64 0, .int .i64 0].toArray 32)) [(n, zl 0), (g + 1, fl 3 g), (g, en2)]) := (H9.out.later b10).later ((Below.refl _ _).alloc (Nat.le_refl _) _)
    obtain ⟨n10, hn10⟩ : ∃ n, w10.heap.size = n := ⟨_, rfl⟩
    clear H9 b10 t0 t1 t2 t3 t4 t5 t6 t7 t8 t9
    go_upto_region 32 with fail
    generalize hW : w10.alloc (.cells [.int .i64 0, .int .i64 0].toArray 32) = u10 at H10 ⊢
    clear hW hn10
    obtain ⟨t0, t1, t2, t3, t4, t5, t6, t7, t8, t9⟩ := H10.out.2.1.ten
    go_wp2_with fail
    refine (fat g (-(1 + (z : Int))) (by omega) _ H10.out.2.2.1).mono ?_
    rintro e w11 ⟨rfl, b11⟩
    have H11 : Hid (Regs h w (w11.alloc (.cells [.int .i64 0, .int .i64 0].toArray 32)) [(n, zl 0), (g + 1, fl 3 g), (g, en2)]) := (H10.out.later b11).later ((Below.refl _ _).alloc (Nat.le_refl _) _)
    obtain ⟨n11, hn11⟩ : ∃ n, w11.heap.size = n := ⟨_, rfl⟩
    clear H10 b11 t0 t1 t2 t3 t4 t5 t6 t7 t8 t9
    go_upto_region 33 with fail
    generalize hW : w11.alloc (.cells [.int .i64 0, .int .i64 0].toArray 32) = u11 at H11 ⊢
    clear hW hn11
    obtain ⟨t0, t1, t2, t3, t4, t5, t6, t7, t8, t9⟩ := H11.out.1.ten
    go_wp2_with (go_at_call 21; refine (num_any _ _).mono ?_; rintro e w0 ⟨rfl, hw0⟩; have hw1 := hw0.symm; clear hw0; subst hw1)
    refine (same_none _).mono ?_
    rintro e w12 ⟨rfl, b12⟩
    have H12 : Hid (Regs h w w12 []) := ⟨(H11.out.later b12).base.1, (H11.out.later b12).base.2⟩
    clear H11 b12 t0 t1 t2 t3 t4 t5 t6 t7 t8 t9
    go_wp2_with (go_at_call 21; refine (num_any _ _).mono ?_; rintro e w0 ⟨rfl, hw0⟩; have hw1 := hw0.symm; clear hw0; subst hw1)
    go_ret
    exact ⟨rfl, H12.out.1⟩

end Go.Proofs.Ytaakhpibdpgjpaa.RgaForms
