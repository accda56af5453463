/-
  The document's own Set, by contracts; and both, at whatever may be written.
-/
import Derived.Test.YtgkddimijmnpcaaGreatDoorZPack3
import Derived.Deep.Cut
namespace Go.Proofs.YtgkddimijmnpcaaGreatDoor
open Go.RowKit
set_option linter.unusedVariables false
set_option linter.unusedSimpArgs false

/-- Set, where it may be written. -/
theorem lset_yes (c : Ce) (p : Pl) (t n : Int) (v : ByteArray) (w : World) (hr : CRow w c p) (hf : Fit c) (hb : setB c t n v = true) :
    Calls Tryz.prog 55 #[ceV c p, .agg #[.int .i64 t, .int .i64 n], .string v] w fun e w' => ∃ q, e = .returned (.tuple #[ceV (setC c t n v) q, .int .i64 0]) ∧ COwn w.heap.size w' (setC c t n v) q ∧ Nils (setC c t n v) q ∧ Below w.heap.size w w' := by
  cases hs : c.set with
  | false =>
    have e : setC c t n v = c4 c true t n v := by simp [setC, hs]
    rw [e]
    exact lset_new c p t n v w hr hf hb hs
  | true =>
    cases hl : lessB c.time c.node t n with
    | false =>
      have e : setC c t n v = c := by simp [setC, hs, hl]
      rw [e]
      exact lset_keep c p t n v w hr hf hb hs hl
    | true =>
      have e : setC c t n v = c4 c true t n v := by simp [setC, hs, hl]
      rw [e]
      exact lset_less c p t n v w hr hf hb hs hl

set_option maxHeartbeats 1000000 in
set_option maxRecDepth 100000 in
/-- The document's Set refuses. -/
theorem rset_no (c : Ce) (p : Pl) (t n : Int) (v : ByteArray) (w : World) (hb : setB c t n v = false) (hv : v.size ≤ maxLen) :
    Calls Tryz.prog 71 #[ceV c p, .agg #[.int .i64 t, .int .i64 n], .string v] w fun e w' => e = .returned (.tuple #[ceV ce0 pl0, .int .i64 700]) ∧ Below w.heap.size w w' := by
  have H0 : Hid (Set3 w w.heap.size c p t n (((w.alloc (.cells (ceL c p).toArray 30)).alloc (.cells #[.int .i64 t, .int .i64 n] 23)).alloc (.cells (ceL ce0 pl0).toArray 30))) := set3_new _ _ _ _ _ _ _ _
  obtain ⟨h, hh⟩ : ∃ h, w.heap.size = h := ⟨_, rfl⟩
  rw [hh] at H0 ⊢
  unfold maxLen at hv
  by_cases hk : c.kind = 0
  · have hk1 : (c.kind != 0) = false := by simpa using hk
    have HK : Hid (c.kind = 0) := hk
    clear hk
    go_enter Tryz.func71, Tryz.ntmps71
    go_wp2_with fail
    refine (rstamp_any t n _).mono ?_
    rintro e w1 ⟨rfl, b1⟩
    have H1 : Hid (Set3 w h c p t n w1) := H0.out.later b1
    clear b1 H0
    obtain ⟨s0, s1, s2, s3, s4, s5, s6, s7, s8, s9⟩ := H1.out.2.2.2.ten
    obtain ⟨z0, z1, z2, z3, z4, z5, z6, z7, z8, z9⟩ := H1.out.2.2.2.tenf
    cases hm : mayS t n
    · go_wp2_with fail
      exact set_no H1.out rfl rfl rfl rfl
    · have hz : decide ((256 : Int) < (v.size : Int)) = true := by
        simp [setB, HK.out, hm] at hb
        simp; omega
      go_wp2_with fail
      exact set_no H1.out rfl rfl rfl rfl
  · have hk1 : (c.kind != 0) = true := by simpa using hk
    go_enter Tryz.func71, Tryz.ntmps71
    go_wp2_with fail
    exact bodyPost_ret (ret_cell2 rfl rfl rfl H0.out.2.2.2) rfl ⟨rfl, H0.out.1⟩

theorem rset_end {fn : Func} {act : Act} {w W : World} {h : Nat} {d : Ce} {q : Pl} (H : RSt w h d q W) (hr : fn.results = #[.cell 6 30, .tmp 7]) (h6 : act.tmps[6]? = some (.pointer (some ⟨h + 2, 0, none⟩))) (h7 : act.tmps[7]? = some (.int .i64 0)) (hd : act.defers = []) :
    bodyPost Tryz.prog fn (fun e w' => ∃ q, e = .returned (.tuple #[ceV d q, .int .i64 0]) ∧ COwn h w' d q ∧ Below h w w') Exit.ret act (put10 W (h + 2) (.int .i64 d.kind) (.bool d.set) (.int .i64 d.time) (.int .i64 d.node) (.string d.val) (.int .i64 d.re) (.int .i64 d.im) (.slice q.eo d.ents.length q.ec) (.slice q.lo d.elems.length q.lc) (.slice q.so d.seen.length q.sc)) :=
  bodyPost_ret (ret_cell2 hr h6 h7 (H.2.1.put10 _ _ _ _ _ _ _ _ _ _)) hd ⟨q, rfl, (H.2.2.put10 (by omega) _ _ _ _ _ _ _ _ _ _).mono (by omega), below_put10 H.1 (by omega) _ _ _ _ _ _ _ _ _ _⟩

set_option maxHeartbeats 2000000 in
set_option maxRecDepth 100000 in
theorem rset_new (c : Ce) (p : Pl) (t n : Int) (v : ByteArray) (w : World) (hr : CRow w c p) (hf : Fit c) (hb : setB c t n v = true) (hs : c.set = false) :
    Calls Tryz.prog 71 #[ceV c p, .agg #[.int .i64 t, .int .i64 n], .string v] w fun e w' => ∃ q, e = .returned (.tuple #[ceV (c4 c true t n v) q, .int .i64 0]) ∧ COwn w.heap.size w' (c4 c true t n v) q ∧ Below w.heap.size w w' := by
  have H0 : Hid (Set3 w w.heap.size c p t n (((w.alloc (.cells (ceL c p).toArray 30)).alloc (.cells #[.int .i64 t, .int .i64 n] 23)).alloc (.cells (ceL ce0 pl0).toArray 30))) := set3_new _ _ _ _ _ _ _ _
  obtain ⟨h, hh⟩ : ∃ h, w.heap.size = h := ⟨_, rfl⟩
  rw [hh] at H0 ⊢
  have HR : Hid (CRow w c p ∧ Fit c) := ⟨hr, hf⟩
  simp only [setB, Bool.and_eq_true, decide_eq_true_eq] at hb
  obtain ⟨⟨hk, hm⟩, hv⟩ := hb
  have hk1 : (c.kind != 0) = false := by simpa using hk
  have hz : decide ((256 : Int) < (v.size : Int)) = false := by simp; omega
  have HS : Hid (c.set = false) := hs
  clear hs hr hf hk
  go_enter Tryz.func71, Tryz.ntmps71
  go_wp2_with fail
  refine (rstamp_any t n _).mono ?_
  rintro e w1 ⟨rfl, b1⟩
  have H1 : Hid (Set3 w h c p t n w1) := H0.out.later b1
  clear b1 H0
  obtain ⟨t0, t1, t2, t3, t4, t5, t6, t7, t8, t9⟩ := H1.out.2.1.ten
  go_wp2_with fail
  refine (rcopy_any c p _ (HR.out.1.later (hh.symm ▸ H1.out.1)) HR.out.2).mono ?_
  rintro e w2 ⟨q, rfl, o2, b2⟩
  have H2 : Hid (Set3 w h c p t n w2) := H1.out.later b2
  have HO2 : Hid (RSt w h c q w2) := ⟨H2.out.1, H2.out.2.2.2, o2.mono H1.out.size⟩
  clear t0 t1 t2 t3 t4 t5 t6 t7 t8 t9 b2 o2 H1
  obtain ⟨t0, t1, t2, t3, t4, t5, t6, t7, t8, t9⟩ := H2.out.2.1.ten
  obtain ⟨f0, f1, f2, f3, f4, f5, f6, f7, f8, f9⟩ := H2.out.2.1.tenf
  go_upto_region 4 with fail
  have H3 : Hid (Set3 w h c q t n ((((((((((w2.setCell ⟨h, 0, none⟩ (.int .i64 c.kind)).setCell ⟨h, 1, none⟩ (.bool c.set)).setCell ⟨h, 2, none⟩ (.int .i64 c.time)).setCell ⟨h, 3, none⟩ (.int .i64 c.node)).setCell ⟨h, 4, none⟩ (.string c.val)).setCell ⟨h, 5, none⟩ (.int .i64 c.re)).setCell ⟨h, 6, none⟩ (.int .i64 c.im)).setCell ⟨h, 7, none⟩ (.slice q.eo c.ents.length q.ec)).setCell ⟨h, 8, none⟩ (.slice q.lo c.elems.length q.lc)).setCell ⟨h, 9, none⟩ (.slice q.so c.seen.length q.sc))) := H2.out.copied (q := q)
  have HO : Hid (RSt w h c q ((((((((((w2.setCell ⟨h, 0, none⟩ (.int .i64 c.kind)).setCell ⟨h, 1, none⟩ (.bool c.set)).setCell ⟨h, 2, none⟩ (.int .i64 c.time)).setCell ⟨h, 3, none⟩ (.int .i64 c.node)).setCell ⟨h, 4, none⟩ (.string c.val)).setCell ⟨h, 5, none⟩ (.int .i64 c.re)).setCell ⟨h, 6, none⟩ (.int .i64 c.im)).setCell ⟨h, 7, none⟩ (.slice q.eo c.ents.length q.ec)).setCell ⟨h, 8, none⟩ (.slice q.lo c.elems.length q.lc)).setCell ⟨h, 9, none⟩ (.slice q.so c.seen.length q.sc))) := HO2.out.put (.int .i64 c.kind) (.bool c.set) (.int .i64 c.time) (.int .i64 c.node) (.string c.val) (.int .i64 c.re) (.int .i64 c.im) (.slice q.eo c.ents.length q.ec) (.slice q.lo c.elems.length q.lc) (.slice q.so c.seen.length q.sc)
  clear t0 t1 t2 t3 t4 t5 t6 t7 t8 t9 f0 f1 f2 f3 f4 f5 f6 f7 f8 f9 HO2 H2
  generalize hW : ((((((((((w2.setCell ⟨h, 0, none⟩ (.int .i64 c.kind)).setCell ⟨h, 1, none⟩ (.bool c.set)).setCell ⟨h, 2, none⟩ (.int .i64 c.time)).setCell ⟨h, 3, none⟩ (.int .i64 c.node)).setCell ⟨h, 4, none⟩ (.string c.val)).setCell ⟨h, 5, none⟩ (.int .i64 c.re)).setCell ⟨h, 6, none⟩ (.int .i64 c.im)).setCell ⟨h, 7, none⟩ (.slice q.eo c.ents.length q.ec)).setCell ⟨h, 8, none⟩ (.slice q.lo c.elems.length q.lc)).setCell ⟨h, 9, none⟩ (.slice q.so c.seen.length q.sc)) = w3 at H3 HO ⊢
  clear hW
  obtain ⟨t0, t1, t2, t3, t4, t5, t6, t7, t8, t9⟩ := H3.out.2.1.ten
  rw [HS.out] at t1
  obtain ⟨f0, f1, f2, f3, f4, f5, f6, f7, f8, f9⟩ := H3.out.2.1.tenf
  have y0 := H3.out.2.2.1.at 0 rfl
  have y1 := H3.out.2.2.1.at 1 rfl
  obtain ⟨s0, s1, s2, s3, s4, s5, s6, s7, s8, s9⟩ := H3.out.2.2.2.ten
  obtain ⟨z0, z1, z2, z3, z4, z5, z6, z7, z8, z9⟩ := H3.out.2.2.2.tenf
  go_wp2_with fail
  exact rset_end (d := c4 c true t n v) (q := q) ((((HO.out.set 1 _).set 2 _).set 3 _).set 4 _) rfl rfl rfl rfl

set_option maxHeartbeats 2000000 in
set_option maxRecDepth 100000 in
theorem rset_less (c : Ce) (p : Pl) (t n : Int) (v : ByteArray) (w : World) (hr : CRow w c p) (hf : Fit c) (hb : setB c t n v = true) (hs : c.set = true) (hl : lessB c.time c.node t n = true) :
    Calls Tryz.prog 71 #[ceV c p, .agg #[.int .i64 t, .int .i64 n], .string v] w fun e w' => ∃ q, e = .returned (.tuple #[ceV (c4 c true t n v) q, .int .i64 0]) ∧ COwn w.heap.size w' (c4 c true t n v) q ∧ Below w.heap.size w w' := by
  have H0 : Hid (Set3 w w.heap.size c p t n (((w.alloc (.cells (ceL c p).toArray 30)).alloc (.cells #[.int .i64 t, .int .i64 n] 23)).alloc (.cells (ceL ce0 pl0).toArray 30))) := set3_new _ _ _ _ _ _ _ _
  obtain ⟨h, hh⟩ : ∃ h, w.heap.size = h := ⟨_, rfl⟩
  rw [hh] at H0 ⊢
  have HR : Hid (CRow w c p ∧ Fit c) := ⟨hr, hf⟩
  simp only [setB, Bool.and_eq_true, decide_eq_true_eq] at hb
  obtain ⟨⟨hk, hm⟩, hv⟩ := hb
  have hk1 : (c.kind != 0) = false := by simpa using hk
  have hz : decide ((256 : Int) < (v.size : Int)) = false := by simp; omega
  have HS : Hid (c.set = true) := hs
  clear hs hr hf hk
  go_enter Tryz.func71, Tryz.ntmps71
  go_wp2_with fail
  refine (rstamp_any t n _).mono ?_
  rintro e w1 ⟨rfl, b1⟩
  have H1 : Hid (Set3 w h c p t n w1) := H0.out.later b1
  clear b1 H0
  obtain ⟨t0, t1, t2, t3, t4, t5, t6, t7, t8, t9⟩ := H1.out.2.1.ten
  go_wp2_with fail
  refine (rcopy_any c p _ (HR.out.1.later (hh.symm ▸ H1.out.1)) HR.out.2).mono ?_
  rintro e w2 ⟨q, rfl, o2, b2⟩
  have H2 : Hid (Set3 w h c p t n w2) := H1.out.later b2
  have HO2 : Hid (RSt w h c q w2) := ⟨H2.out.1, H2.out.2.2.2, o2.mono H1.out.size⟩
  clear t0 t1 t2 t3 t4 t5 t6 t7 t8 t9 b2 o2 H1
  obtain ⟨t0, t1, t2, t3, t4, t5, t6, t7, t8, t9⟩ := H2.out.2.1.ten
  obtain ⟨f0, f1, f2, f3, f4, f5, f6, f7, f8, f9⟩ := H2.out.2.1.tenf
  go_upto_region 4 with fail
  have H3 : Hid (Set3 w h c q t n ((((((((((w2.setCell ⟨h, 0, none⟩ (.int .i64 c.kind)).setCell ⟨h, 1, none⟩ (.bool c.set)).setCell ⟨h, 2, none⟩ (.int .i64 c.time)).setCell ⟨h, 3, none⟩ (.int .i64 c.node)).setCell ⟨h, 4, none⟩ (.string c.val)).setCell ⟨h, 5, none⟩ (.int .i64 c.re)).setCell ⟨h, 6, none⟩ (.int .i64 c.im)).setCell ⟨h, 7, none⟩ (.slice q.eo c.ents.length q.ec)).setCell ⟨h, 8, none⟩ (.slice q.lo c.elems.length q.lc)).setCell ⟨h, 9, none⟩ (.slice q.so c.seen.length q.sc))) := H2.out.copied (q := q)
  have HO : Hid (RSt w h c q ((((((((((w2.setCell ⟨h, 0, none⟩ (.int .i64 c.kind)).setCell ⟨h, 1, none⟩ (.bool c.set)).setCell ⟨h, 2, none⟩ (.int .i64 c.time)).setCell ⟨h, 3, none⟩ (.int .i64 c.node)).setCell ⟨h, 4, none⟩ (.string c.val)).setCell ⟨h, 5, none⟩ (.int .i64 c.re)).setCell ⟨h, 6, none⟩ (.int .i64 c.im)).setCell ⟨h, 7, none⟩ (.slice q.eo c.ents.length q.ec)).setCell ⟨h, 8, none⟩ (.slice q.lo c.elems.length q.lc)).setCell ⟨h, 9, none⟩ (.slice q.so c.seen.length q.sc))) := HO2.out.put (.int .i64 c.kind) (.bool c.set) (.int .i64 c.time) (.int .i64 c.node) (.string c.val) (.int .i64 c.re) (.int .i64 c.im) (.slice q.eo c.ents.length q.ec) (.slice q.lo c.elems.length q.lc) (.slice q.so c.seen.length q.sc)
  clear t0 t1 t2 t3 t4 t5 t6 t7 t8 t9 f0 f1 f2 f3 f4 f5 f6 f7 f8 f9 HO2 H2
  generalize hW : ((((((((((w2.setCell ⟨h, 0, none⟩ (.int .i64 c.kind)).setCell ⟨h, 1, none⟩ (.bool c.set)).setCell ⟨h, 2, none⟩ (.int .i64 c.time)).setCell ⟨h, 3, none⟩ (.int .i64 c.node)).setCell ⟨h, 4, none⟩ (.string c.val)).setCell ⟨h, 5, none⟩ (.int .i64 c.re)).setCell ⟨h, 6, none⟩ (.int .i64 c.im)).setCell ⟨h, 7, none⟩ (.slice q.eo c.ents.length q.ec)).setCell ⟨h, 8, none⟩ (.slice q.lo c.elems.length q.lc)).setCell ⟨h, 9, none⟩ (.slice q.so c.seen.length q.sc)) = w3 at H3 HO ⊢
  clear hW
  obtain ⟨t0, t1, t2, t3, t4, t5, t6, t7, t8, t9⟩ := H3.out.2.1.ten
  rw [HS.out] at t1
  have y0 := H3.out.2.2.1.at 0 rfl
  have y1 := H3.out.2.2.1.at 1 rfl
  go_wp2_with fail
  refine (refLess_any c.time c.node t n _).mono ?_
  rintro e w4 ⟨rfl, b4⟩
  replace H3 : Hid (Set3 w h c q t n w4) := H3.out.later b4
  replace HO : Hid (RSt w h c q w4) := HO.out.later b4
  clear t0 t1 t2 t3 t4 t5 t6 t7 t8 t9 b4 y0 y1
  obtain ⟨t0, t1, t2, t3, t4, t5, t6, t7, t8, t9⟩ := H3.out.2.1.ten
  obtain ⟨f0, f1, f2, f3, f4, f5, f6, f7, f8, f9⟩ := H3.out.2.1.tenf
  have y0 := H3.out.2.2.1.at 0 rfl
  have y1 := H3.out.2.2.1.at 1 rfl
  obtain ⟨s0, s1, s2, s3, s4, s5, s6, s7, s8, s9⟩ := H3.out.2.2.2.ten
  obtain ⟨z0, z1, z2, z3, z4, z5, z6, z7, z8, z9⟩ := H3.out.2.2.2.tenf
  go_wp2_with fail
  exact rset_end (d := c4 c true t n v) (q := q) ((((HO.out.set 1 _).set 2 _).set 3 _).set 4 _) rfl rfl rfl rfl

set_option maxHeartbeats 2000000 in
set_option maxRecDepth 100000 in
theorem rset_keep (c : Ce) (p : Pl) (t n : Int) (v : ByteArray) (w : World) (hr : CRow w c p) (hf : Fit c) (hb : setB c t n v = true) (hs : c.set = true) (hl : lessB c.time c.node t n = false) :
    Calls Tryz.prog 71 #[ceV c p, .agg #[.int .i64 t, .int .i64 n], .string v] w fun e w' => ∃ q, e = .returned (.tuple #[ceV (c) q, .int .i64 0]) ∧ COwn w.heap.size w' (c) q ∧ Below w.heap.size w w' := by
  have H0 : Hid (Set3 w w.heap.size c p t n (((w.alloc (.cells (ceL c p).toArray 30)).alloc (.cells #[.int .i64 t, .int .i64 n] 23)).alloc (.cells (ceL ce0 pl0).toArray 30))) := set3_new _ _ _ _ _ _ _ _
  obtain ⟨h, hh⟩ : ∃ h, w.heap.size = h := ⟨_, rfl⟩
  rw [hh] at H0 ⊢
  have HR : Hid (CRow w c p ∧ Fit c) := ⟨hr, hf⟩
  simp only [setB, Bool.and_eq_true, decide_eq_true_eq] at hb
  obtain ⟨⟨hk, hm⟩, hv⟩ := hb
  have hk1 : (c.kind != 0) = false := by simpa using hk
  have hz : decide ((256 : Int) < (v.size : Int)) = false := by simp; omega
  have HS : Hid (c.set = true) := hs
  clear hs hr hf hk
  go_enter Tryz.func71, Tryz.ntmps71
  go_wp2_with fail
  refine (rstamp_any t n _).mono ?_
  rintro e w1 ⟨rfl, b1⟩
  have H1 : Hid (Set3 w h c p t n w1) := H0.out.later b1
  clear b1 H0
  obtain ⟨t0, t1, t2, t3, t4, t5, t6, t7, t8, t9⟩ := H1.out.2.1.ten
  go_wp2_with fail
  refine (rcopy_any c p _ (HR.out.1.later (hh.symm ▸ H1.out.1)) HR.out.2).mono ?_
  rintro e w2 ⟨q, rfl, o2, b2⟩
  have H2 : Hid (Set3 w h c p t n w2) := H1.out.later b2
  have HO2 : Hid (RSt w h c q w2) := ⟨H2.out.1, H2.out.2.2.2, o2.mono H1.out.size⟩
  clear t0 t1 t2 t3 t4 t5 t6 t7 t8 t9 b2 o2 H1
  obtain ⟨t0, t1, t2, t3, t4, t5, t6, t7, t8, t9⟩ := H2.out.2.1.ten
  obtain ⟨f0, f1, f2, f3, f4, f5, f6, f7, f8, f9⟩ := H2.out.2.1.tenf
  go_upto_region 4 with fail
  have H3 : Hid (Set3 w h c q t n ((((((((((w2.setCell ⟨h, 0, none⟩ (.int .i64 c.kind)).setCell ⟨h, 1, none⟩ (.bool c.set)).setCell ⟨h, 2, none⟩ (.int .i64 c.time)).setCell ⟨h, 3, none⟩ (.int .i64 c.node)).setCell ⟨h, 4, none⟩ (.string c.val)).setCell ⟨h, 5, none⟩ (.int .i64 c.re)).setCell ⟨h, 6, none⟩ (.int .i64 c.im)).setCell ⟨h, 7, none⟩ (.slice q.eo c.ents.length q.ec)).setCell ⟨h, 8, none⟩ (.slice q.lo c.elems.length q.lc)).setCell ⟨h, 9, none⟩ (.slice q.so c.seen.length q.sc))) := H2.out.copied (q := q)
  have HO : Hid (RSt w h c q ((((((((((w2.setCell ⟨h, 0, none⟩ (.int .i64 c.kind)).setCell ⟨h, 1, none⟩ (.bool c.set)).setCell ⟨h, 2, none⟩ (.int .i64 c.time)).setCell ⟨h, 3, none⟩ (.int .i64 c.node)).setCell ⟨h, 4, none⟩ (.string c.val)).setCell ⟨h, 5, none⟩ (.int .i64 c.re)).setCell ⟨h, 6, none⟩ (.int .i64 c.im)).setCell ⟨h, 7, none⟩ (.slice q.eo c.ents.length q.ec)).setCell ⟨h, 8, none⟩ (.slice q.lo c.elems.length q.lc)).setCell ⟨h, 9, none⟩ (.slice q.so c.seen.length q.sc))) := HO2.out.put (.int .i64 c.kind) (.bool c.set) (.int .i64 c.time) (.int .i64 c.node) (.string c.val) (.int .i64 c.re) (.int .i64 c.im) (.slice q.eo c.ents.length q.ec) (.slice q.lo c.elems.length q.lc) (.slice q.so c.seen.length q.sc)
  clear t0 t1 t2 t3 t4 t5 t6 t7 t8 t9 f0 f1 f2 f3 f4 f5 f6 f7 f8 f9 HO2 H2
  generalize hW : ((((((((((w2.setCell ⟨h, 0, none⟩ (.int .i64 c.kind)).setCell ⟨h, 1, none⟩ (.bool c.set)).setCell ⟨h, 2, none⟩ (.int .i64 c.time)).setCell ⟨h, 3, none⟩ (.int .i64 c.node)).setCell ⟨h, 4, none⟩ (.string c.val)).setCell ⟨h, 5, none⟩ (.int .i64 c.re)).setCell ⟨h, 6, none⟩ (.int .i64 c.im)).setCell ⟨h, 7, none⟩ (.slice q.eo c.ents.length q.ec)).setCell ⟨h, 8, none⟩ (.slice q.lo c.elems.length q.lc)).setCell ⟨h, 9, none⟩ (.slice q.so c.seen.length q.sc)) = w3 at H3 HO ⊢
  clear hW
  obtain ⟨t0, t1, t2, t3, t4, t5, t6, t7, t8, t9⟩ := H3.out.2.1.ten
  rw [HS.out] at t1
  have y0 := H3.out.2.2.1.at 0 rfl
  have y1 := H3.out.2.2.1.at 1 rfl
  go_wp2_with fail
  refine (refLess_any c.time c.node t n _).mono ?_
  rintro e w4 ⟨rfl, b4⟩
  replace H3 : Hid (Set3 w h c q t n w4) := H3.out.later b4
  replace HO : Hid (RSt w h c q w4) := HO.out.later b4
  clear t0 t1 t2 t3 t4 t5 t6 t7 t8 t9 b4 y0 y1
  obtain ⟨t0, t1, t2, t3, t4, t5, t6, t7, t8, t9⟩ := H3.out.2.1.ten
  obtain ⟨f0, f1, f2, f3, f4, f5, f6, f7, f8, f9⟩ := H3.out.2.1.tenf
  have y0 := H3.out.2.2.1.at 0 rfl
  have y1 := H3.out.2.2.1.at 1 rfl
  obtain ⟨s0, s1, s2, s3, s4, s5, s6, s7, s8, s9⟩ := H3.out.2.2.2.ten
  obtain ⟨z0, z1, z2, z3, z4, z5, z6, z7, z8, z9⟩ := H3.out.2.2.2.tenf
  go_wp2_with fail
  exact rset_end (d := c) (q := q) HO.out rfl rfl rfl rfl

/-- The document's Set, where it may be written. -/
theorem rset_yes (c : Ce) (p : Pl) (t n : Int) (v : ByteArray) (w : World) (hr : CRow w c p) (hf : Fit c) (hb : setB c t n v = true) :
    Calls Tryz.prog 71 #[ceV c p, .agg #[.int .i64 t, .int .i64 n], .string v] w fun e w' => ∃ q, e = .returned (.tuple #[ceV (setC c t n v) q, .int .i64 0]) ∧ COwn w.heap.size w' (setC c t n v) q ∧ Below w.heap.size w w' := by
  cases hs : c.set with
  | false =>
    have e : setC c t n v = c4 c true t n v := by simp [setC, hs]
    rw [e]
    exact rset_new c p t n v w hr hf hb hs
  | true =>
    cases hl : lessB c.time c.node t n with
    | false =>
      have e : setC c t n v = c := by simp [setC, hs, hl]
      rw [e]
      exact rset_keep c p t n v w hr hf hb hs hl
    | true =>
      have e : setC c t n v = c4 c true t n v := by simp [setC, hs, hl]
      rw [e]
      exact rset_less c p t n v w hr hf hb hs hl

end Go.Proofs.YtgkddimijmnpcaaGreatDoor

