/-
  The walk of the law Counts, at whatever comes as its arguments.
-/
import Derived.Test.YtmojkjhmacnndaaAwake8
import Derived.Test.YtmojkjhmacnndaaCeOpen
namespace Go.Proofs.Ytmojkjhmacnndaa.Counts
open Go.RowKit
set_option linter.unusedVariables false
set_option linter.unusedSimpArgs false

set_option maxHeartbeats 2000000 in
set_option maxRecDepth 100000 in
theorem core (c : Ce) (p : Pl) (t n : Int) (w : World) (hr : CRow w c p) (hf : Fit c) :
    Calls Try.prog 3 #[ceV c p, .agg #[.int .i64 t, .int .i64 n]] w fun e w' => e = .returned (.bool true) ∧ Below w.heap.size w w' := by
  have H0 : Hid (L2 w w.heap.size c p t n ((w.alloc (.cells (ceL c p).toArray 30)).alloc (.cells #[.int .i64 t, .int .i64 n] 25))) := l2_new _ _ _ _ _ _ _
  obtain ⟨h, hh⟩ : ∃ h, w.heap.size = h := ⟨_, rfl⟩
  rw [hh] at H0 ⊢
  have HR : Hid (CRow w c p ∧ Fit c) := ⟨hr, hf⟩
  clear hr hf
  go_enter Try.func3, Try.ntmps3
  go_wp2_with fail
  refine (copyCell_any c p _ (HR.out.1.later (hh.symm ▸ H0.out.1)) HR.out.2).mono ?_
  rintro e w1 ⟨x, rfl, o1, b1⟩
  have H1 : Hid (L2 w h c p t n w1 ∧ COwn h w1 c x) := ⟨H0.out.later b1, o1.mono (by simp [hh]; omega)⟩
  clear H0 o1 b1
  obtain ⟨k1, hk1⟩ : ∃ k, w1.heap.size = k := ⟨_, rfl⟩
  have K1 : Hid (Has (w1.alloc (.cells (ceL c x).toArray 30)) k1 (ceL c x)) := by rw [← hk1]; exact has_new _ _ _
  have HK : Hid (w1.heap.size = k1) := hk1
  have hl1 : h + 1 < k1 := by have := H1.out.1.size; omega
  have y0 := H1.out.1.2.2.at 0 rfl
  have y1 := H1.out.1.2.2.at 1 rfl
  go_wp2_with fail
  refine (cadd_all c x t n _ (H1.out.2.row.alloc _) HR.out.2).mono ?_
  rintro e w2 ⟨a, rfl, o2, b2⟩
  have hal : Below w1.heap.size w1 (w1.alloc (.cells (ceL c x).toArray 30)) := (Below.refl _ _).alloc (Nat.le_refl _) _
  have H2 : Hid (L2 w h c p t n w2 ∧ Below k1 w1 w2 ∧ Has w2 k1 (ceL c x) ∧ COwn (k1 + 1) w2 (ansN c t n) a) := ⟨(H1.out.1.later hal).later b2, HK.out ▸ thenB hal b2, K1.out.later b2, o2.mono (by simp [hk1])⟩
  have HX : Hid (COwn h w1 c x) := H1.out.2
  clear H1 K1 o2 b2 hal y0 y1 hk1
  obtain ⟨k2, hk2⟩ : ∃ k, w2.heap.size = k := ⟨_, rfl⟩
  have K2 : Hid (Has (w2.alloc (.cells (ceL (ansN c t n) a).toArray 30)) k2 (ceL (ansN c t n) a)) := by rw [← hk2]; exact has_new _ _ _
  have hl2 : k1 < k2 := by have := H2.out.2.2.1.1; omega
  have hl3 : h < k2 := by omega
  have hl4 : h + 1 < k2 := by omega
  obtain ⟨t0, t1, t2, t3, t4, t5, t6, t7, t8, t9⟩ := H2.out.1.2.1.ten
  have y0 := H2.out.1.2.2.at 0 rfl
  have y1 := H2.out.1.2.2.at 1 rfl
  go_wp2_with fail
  refine (rcount_all c p t n _ ((HR.out.1.later (hh.symm ▸ H2.out.1.1)).alloc _) HR.out.2).mono ?_
  rintro e w3 ⟨b, rfl, o3, b3⟩
  have hal : Below w2.heap.size w2 (w2.alloc (.cells (ceL (ansN c t n) a).toArray 30)) := (Below.refl _ _).alloc (Nat.le_refl _) _
  have H3 : Hid (L2 w h c p t n w3 ∧ Below k1 w1 w3 ∧ Has w3 k1 (ceL c x) ∧ COwn (k1 + 1) w3 (ansN c t n) a ∧ Has w3 k2 (ceL (ansN c t n) a) ∧ CRow w3 (ansN c t n) b) := ⟨(H2.out.1.later hal).later b3, H2.out.2.1.trans ((thenB hal b3).mono (by omega)), (H2.out.2.2.1.later hal).later b3, (H2.out.2.2.2.later hal).later b3, K2.out.later b3, o3.row⟩
  clear H2 K2 o3 b3 hal y0 y1 hk2 t0 t1 t2 t3 t4 t5 t6 t7 t8 t9
  obtain ⟨k3, hk3⟩ : ∃ k, w3.heap.size = k := ⟨_, rfl⟩
  have hl5 : k2 < k3 := by have := H3.out.2.2.2.2.1.1; omega
  obtain ⟨t0, t1, t2, t3, t4, t5, t6, t7, t8, t9⟩ := H3.out.2.2.2.2.1.ten
  go_wp2_with fail
  refine (sameCell_any (ansN c t n) a b _ (H3.out.2.2.2.1.row.alloc _) (H3.out.2.2.2.2.2.alloc _) (fit_cnt HR.out.2)).mono ?_
  rintro e w4 ⟨rfl, b4⟩
  have hal : Below w3.heap.size w3 (w3.alloc (.cells (ceL (ansN c t n) b).toArray 30)) := (Below.refl _ _).alloc (Nat.le_refl _) _
  have H4 : Hid (L2 w h c p t n w4 ∧ Below k1 w1 w4 ∧ Has w4 k1 (ceL c x) ∧ COwn (k1 + 1) w4 (ansN c t n) a ∧ Has w4 k2 (ceL (ansN c t n) a)) := ⟨(H3.out.1.later hal).later b4, H3.out.2.1.trans ((thenB hal b4).mono (by omega)), (H3.out.2.2.1.later hal).later b4, (H3.out.2.2.2.1.later hal).later b4, (H3.out.2.2.2.2.1.later hal).later b4⟩
  clear H3 b4 hal hk3 hl5 t0 t1 t2 t3 t4 t5 t6 t7 t8 t9
  obtain ⟨t0, t1, t2, t3, t4, t5, t6, t7, t8, t9⟩ := H4.out.2.2.2.2.ten
  have hne : (ansM c t n != ansM c t n) = false := by simp
  go_wp2_with (go_at_call 10; refine (num_any _ _).mono ?_; rintro e w0 ⟨rfl, rfl⟩)
  refine (spoilCell_any (k1 + 1) (ansN c t n) a _ H4.out.2.2.2.1 (by have := H4.out.2.2.2.2.1; omega) (fit_cnt HR.out.2)).mono ?_
  rintro e w5 ⟨rfl, b5⟩
  have H5 : Hid (Below h w w5 ∧ Has w5 h (ceL c p) ∧ Has w5 k1 (ceL c x) ∧ COwn h w5 c x) := ⟨H4.out.1.1.trans (b5.mono (by omega)), H4.out.1.2.1.under (by omega) b5, H4.out.2.2.1.under (by omega) b5, HX.out.kept (B := k1 + 1) (by have := HK.out; omega) (HK.out.symm ▸ H4.out.2.1) b5⟩
  clear H4 b5 t0 t1 t2 t3 t4 t5 t6 t7 t8 t9
  obtain ⟨t0, t1, t2, t3, t4, t5, t6, t7, t8, t9⟩ := H5.out.2.2.1.ten
  obtain ⟨r0, r1, r2, r3, r4, r5, r6, r7, r8, r9⟩ := H5.out.2.1.ten
  first | go_end0 | skip
  go_wp2_with fail
  refine (sameCell_any c x p _ H5.out.2.2.2.row (HR.out.1.later (hh.symm ▸ H5.out.1)) HR.out.2).mono ?_
  rintro e w6 ⟨rfl, b6⟩
  have B6 : Below h w w6 := H5.out.1.trans (b6.mono (by have := H5.out.2.1.1; omega))
  clear b6 t0 t1 t2 t3 t4 t5 t6 t7 t8 t9 r0 r1 r2 r3 r4 r5 r6 r7 r8 r9
  go_wp2_with fail
  refine (awake8_any _).mono ?_
  rintro e w7 ⟨rfl, b7⟩
  go_wp2
  go_ret
  exact ⟨rfl, B6.trans (b7.mono (by have := B6.size; omega))⟩

theorem walk {H : Type} {enc : TypeId × Value → H} {base : Nat} {d0 d1 : DataW H} {p0 p1 : List MemPlace} (v0 v1 : Value) (w : World)
    (o0 : Value.okWide Try.prog w .any base 30 v0) (h0 : DataW.Trod enc Try.prog w 0 (fun _ => true) true 30 v0 d0 p0) (z0 : ∀ n, n ∈ DataW.weights Try.prog 30 d0 → n ≤ reachBytes)
    (o1 : Value.okWide Try.prog w .any base 25 v1) (h1 : DataW.Trod enc Try.prog w 0 (fun _ => true) true 25 v1 d1 p1) (z1 : ∀ n, n ∈ DataW.weights Try.prog 25 d1 → n ≤ reachBytes)
    :
    Calls Try.prog 3 #[v0, v1] w fun e w' => e = .returned (.bool true) ∧ Below w.heap.size w w' := by
  obtain ⟨c, q, rfl, hr, hf⟩ := open_cell o0 h0 z0
  obtain ⟨t, n, rfl, _, _⟩ := open_two Try.underlying25 (by kernel_rfl) rfl rfl (by kernel_rfl) (by kernel_rfl) Try.underlying3 Try.underlying3 o1 h1
  exact core c q t n w hr hf

end Go.Proofs.Ytmojkjhmacnndaa.Counts
