/-
  The document's own Count, by contracts; both, whatever comes.
-/
import Derived.Test.YtmojkjhmacnndaaCnt
namespace Go.Proofs.Ytmojkjhmacnndaa
open Go.RowKit
set_option linter.unusedVariables false
set_option linter.unusedSimpArgs false

set_option maxHeartbeats 1000000 in
set_option maxRecDepth 100000 in
/-- The document's Count refuses. -/
theorem rcount_no (c : Ce) (p : Pl) (x y : Int) (w : World) (hb : cntB c x y = false) :
    Calls Try.prog 8 #[ceV c p, pv x y] w fun e w' => e = .returned (.tuple #[ceV ce0 pl0, .int .i64 800]) ∧ Below w.heap.size w w' := by
  have H0 : Hid (Set3 w w.heap.size c p x y (((w.alloc (.cells (ceL c p).toArray 30)).alloc (.cells #[.int .i64 x, .int .i64 y] 25)).alloc (.cells (ceL ce0 pl0).toArray 30))) := set3_new _ _ _ _ _ _ _ _
  obtain ⟨h, hh⟩ : ∃ h, w.heap.size = h := ⟨_, rfl⟩
  rw [hh] at H0 ⊢
  by_cases hk : c.kind = 1
  · have hk1 : (c.kind != 1) = false := by simpa using hk
    have ha : addB c.re c.im x y = false := by simpa [cntB, hk] using hb
    clear hk hb
    go_enter Try.func8, Try.ntmps8
    go_wp2_with fail
    refine (radd_no ha _).mono ?_
    rintro e w1 ⟨rfl, b1⟩
    have H2 : Hid (Set3 w h c p x y w1) := H0.out.later b1
    clear b1 H0 ha
    obtain ⟨k, hk⟩ : ∃ k, w1.heap.size = k := ⟨_, rfl⟩
    have hlt : h + 2 < k := by have := H2.out.size; omega
    have hlt0 : h < k := by omega
    have t0 := H2.out.2.1.at 0 rfl
    obtain ⟨s0, s1, s2, s3, s4, s5, s6, s7, s8, s9⟩ := H2.out.2.2.2.ten
    obtain ⟨z0, z1, z2, z3, z4, z5, z6, z7, z8, z9⟩ := H2.out.2.2.2.tenf
    go_wp2_with fail
    exact cnt_no H2.out rfl rfl rfl rfl
  · have hk1 : (c.kind != 1) = true := by simpa using hk
    obtain ⟨X, Y, E, C1⟩ : ∃ X Y E : Int, ∀ w, Calls Try.prog 16 #[pv c.re c.im, pv x y] w fun e w' => e = .returned (.tuple #[pv X Y, .int .i64 E]) ∧ Below w.heap.size w w' := ⟨_, _, _, fun w => radd_any c.re c.im x y w⟩
    clear hk hb
    go_enter Try.func8, Try.ntmps8
    go_wp2_with fail
    refine (C1 _).mono ?_
    rintro e w1 ⟨rfl, b1⟩
    have H2 : Hid (Set3 w h c p x y w1) := H0.out.later b1
    clear b1 H0 C1
    obtain ⟨k, hk⟩ : ∃ k, w1.heap.size = k := ⟨_, rfl⟩
    have hlt : h + 2 < k := by have := H2.out.size; omega
    have hlt0 : h < k := by omega
    have t0 := H2.out.2.1.at 0 rfl
    obtain ⟨s0, s1, s2, s3, s4, s5, s6, s7, s8, s9⟩ := H2.out.2.2.2.ten
    obtain ⟨z0, z1, z2, z3, z4, z5, z6, z7, z8, z9⟩ := H2.out.2.2.2.tenf
    go_wp2_with fail
    exact cnt_no H2.out rfl rfl rfl rfl

theorem rcnt_end {fn : Func} {act : Act} {w W : World} {h : Nat} {d : Ce} {q : Pl} (H : RSt w h d q W) (hr : fn.results = #[.cell 4 30, .tmp 5]) (h6 : act.tmps[4]? = some (.pointer (some ⟨h + 2, 0, none⟩))) (h7 : act.tmps[5]? = some (.int .i64 0)) (hd : act.defers = []) :
    bodyPost Try.prog fn (fun e w' => ∃ q, e = .returned (.tuple #[ceV d q, .int .i64 0]) ∧ COwn h w' d q ∧ Below h w w') Exit.ret act (put10 W (h + 2) (.int .i64 d.kind) (.bool d.set) (.int .i64 d.time) (.int .i64 d.node) (.string d.val) (.int .i64 d.re) (.int .i64 d.im) (.slice q.eo d.ents.length q.ec) (.slice q.lo d.elems.length q.lc) (.slice q.so d.seen.length q.sc)) :=
  bodyPost_ret (ret_cell2 hr h6 h7 (H.2.1.put10 _ _ _ _ _ _ _ _ _ _)) hd ⟨q, rfl, (H.2.2.put10 (by omega) _ _ _ _ _ _ _ _ _ _).mono (by omega), below_put10 H.1 (by omega) _ _ _ _ _ _ _ _ _ _⟩

set_option maxHeartbeats 2000000 in
set_option maxRecDepth 100000 in
/-- The document's Count takes it. -/
theorem rcount_yes (c : Ce) (p : Pl) (x y : Int) (w : World) (hr : CRow w c p) (hf : Fit c) (hb : cntB c x y = true) :
    Calls Try.prog 8 #[ceV c p, pv x y] w fun e w' => ∃ q, e = .returned (.tuple #[ceV (cntC c x y) q, .int .i64 0]) ∧ COwn w.heap.size w' (cntC c x y) q ∧ Below w.heap.size w w' := by
  have H0 : Hid (Set3 w w.heap.size c p x y (((w.alloc (.cells (ceL c p).toArray 30)).alloc (.cells #[.int .i64 x, .int .i64 y] 25)).alloc (.cells (ceL ce0 pl0).toArray 30))) := set3_new _ _ _ _ _ _ _ _
  obtain ⟨h, hh⟩ : ∃ h, w.heap.size = h := ⟨_, rfl⟩
  rw [hh] at H0 ⊢
  have HR : Hid (CRow w c p ∧ Fit c) := ⟨hr, hf⟩
  simp only [cntB, Bool.and_eq_true, decide_eq_true_eq] at hb
  obtain ⟨hk, ha⟩ := hb
  have hk1 : (c.kind != 1) = false := by simpa using hk
  clear hr hf hk
  obtain ⟨X, eX⟩ : ∃ X, X = c.re + x := ⟨_, rfl⟩
  obtain ⟨Y, eY⟩ : ∃ Y, Y = c.im + y := ⟨_, rfl⟩
  have C1 := radd_yes X Y ha eX eY
  have ed : cntC c x y = cN c X Y := by rw [eX, eY]; rfl
  rw [ed]
  clear eX eY ed ha
  go_enter Try.func8, Try.ntmps8
  go_wp2_with fail
  refine (C1 _).mono ?_
  rintro e w1 ⟨rfl, b1⟩
  have H1 : Hid (Set3 w h c p x y w1) := H0.out.later b1
  clear b1 H0 C1
  obtain ⟨g, hg⟩ : ∃ g, w1.heap.size = g := ⟨_, rfl⟩
  have H2 : Hid (Set3 w h c p x y (w1.alloc (.cells #[.int .i64 X, .int .i64 Y] 25)) ∧ Has (w1.alloc (.cells #[.int .i64 X, .int .i64 Y] 25)) g [.int .i64 X, .int .i64 Y]) :=
    ⟨H1.out.later ((Below.refl _ _).alloc (Nat.le_refl _) _), hg ▸ has_new w1 [.int .i64 X, .int .i64 Y] _⟩
  have hlt : h < g := by have := H1.out.size; omega
  have hlt3 : h + 3 ≤ g := by have := H1.out.size; omega
  obtain ⟨t0, t1, t2, t3, t4, t5, t6, t7, t8, t9⟩ := H1.out.2.1.ten
  go_wp2_with fail
  refine (rcopy_any c p _ (HR.out.1.later (hh.symm ▸ H2.out.1.1)) HR.out.2).mono ?_
  rintro e w2 ⟨q, rfl, o2, b2⟩
  have H3 : Hid (Set3 w h c p x y w2 ∧ Has w2 g [.int .i64 X, .int .i64 Y]) := ⟨H2.out.1.later b2, H2.out.2.later b2⟩
  have HO2 : Hid (RSt w h c q w2) := ⟨H3.out.1.1, H3.out.1.2.2.2, o2.mono H2.out.1.size⟩
  clear t0 t1 t2 t3 t4 t5 t6 t7 t8 t9 b2 o2 H1 H2 hg
  obtain ⟨t0, t1, t2, t3, t4, t5, t6, t7, t8, t9⟩ := H3.out.1.2.1.ten
  obtain ⟨f0, f1, f2, f3, f4, f5, f6, f7, f8, f9⟩ := H3.out.1.2.1.tenf
  go_upto_region 5 with fail
  have H4 : Hid (Set3 w h c q x y (put10 w2 h (.int .i64 c.kind) (.bool c.set) (.int .i64 c.time) (.int .i64 c.node) (.string c.val) (.int .i64 c.re) (.int .i64 c.im) (.slice q.eo c.ents.length q.ec) (.slice q.lo c.elems.length q.lc) (.slice q.so c.seen.length q.sc))) := H3.out.1.copied (q := q)
  have HO : Hid (RSt w h c q (put10 w2 h (.int .i64 c.kind) (.bool c.set) (.int .i64 c.time) (.int .i64 c.node) (.string c.val) (.int .i64 c.re) (.int .i64 c.im) (.slice q.eo c.ents.length q.ec) (.slice q.lo c.elems.length q.lc) (.slice q.so c.seen.length q.sc))) := HO2.out.put (.int .i64 c.kind) (.bool c.set) (.int .i64 c.time) (.int .i64 c.node) (.string c.val) (.int .i64 c.re) (.int .i64 c.im) (.slice q.eo c.ents.length q.ec) (.slice q.lo c.elems.length q.lc) (.slice q.so c.seen.length q.sc)
  have HG : Hid (Has (put10 w2 h (.int .i64 c.kind) (.bool c.set) (.int .i64 c.time) (.int .i64 c.node) (.string c.val) (.int .i64 c.re) (.int .i64 c.im) (.slice q.eo c.ents.length q.ec) (.slice q.lo c.elems.length q.lc) (.slice q.so c.seen.length q.sc)) g [.int .i64 X, .int .i64 Y]) := by
    show Has _ _ _
    repeat apply Has.other (hk := by omega)
    exact H3.out.2
  dsimp only [put10] at H4 HO HG
  clear t0 t1 t2 t3 t4 t5 t6 t7 t8 t9 f0 f1 f2 f3 f4 f5 f6 f7 f8 f9 HO2 H3
  generalize hW : World.setCell _ (⟨h, 9, none⟩ : Addr) _ = w3 at H4 HO HG ⊢
  clear hW
  obtain ⟨t0, t1, t2, t3, t4, t5, t6, t7, t8, t9⟩ := H4.out.2.1.ten
  obtain ⟨f0, f1, f2, f3, f4, f5, f6, f7, f8, f9⟩ := H4.out.2.1.tenf
  have y0 := HG.out.at 0 rfl
  have y1 := HG.out.at 1 rfl
  obtain ⟨s0, s1, s2, s3, s4, s5, s6, s7, s8, s9⟩ := H4.out.2.2.2.ten
  obtain ⟨z0, z1, z2, z3, z4, z5, z6, z7, z8, z9⟩ := H4.out.2.2.2.tenf
  go_wp2_with fail
  exact rcnt_end (d := cN c X Y) (q := q) ((HO.out.set 5 _).set 6 _) rfl rfl rfl rfl

/-- What Add answers, whatever comes. -/
def ansN (c : Ce) (x y : Int) : Ce := if cntB c x y then cntC c x y else ce0
def ansM (c : Ce) (x y : Int) : Int := if cntB c x y then 0 else 800

theorem cadd_all (c : Ce) (p : Pl) (x y : Int) (w : World) (hr : CRow w c p) (hf : Fit c) :
    Calls Try.prog 7 #[ceV c p, pv x y] w fun e w' => ∃ q, e = .returned (.tuple #[ceV (ansN c x y) q, .int .i64 (ansM c x y)]) ∧ COwn w.heap.size w' (ansN c x y) q ∧ Below w.heap.size w w' := by
  unfold ansN ansM
  cases hb : cntB c x y with
  | true =>
    refine (cadd_yes c p x y w hr hf hb).mono ?_
    rintro e w1 ⟨q, he, o, _, b⟩
    exact ⟨q, he, o, b⟩
  | false =>
    refine (cadd_no c p x y w hb).mono ?_
    rintro e w1 ⟨he, b⟩
    exact ⟨pl0, he, own_none0 _ _, b⟩

theorem rcount_all (c : Ce) (p : Pl) (x y : Int) (w : World) (hr : CRow w c p) (hf : Fit c) :
    Calls Try.prog 8 #[ceV c p, pv x y] w fun e w' => ∃ q, e = .returned (.tuple #[ceV (ansN c x y) q, .int .i64 (ansM c x y)]) ∧ COwn w.heap.size w' (ansN c x y) q ∧ Below w.heap.size w w' := by
  unfold ansN ansM
  cases hb : cntB c x y with
  | true =>
    refine (rcount_yes c p x y w hr hf hb).mono ?_
    rintro e w1 ⟨q, he, o, b⟩
    exact ⟨q, he, o, b⟩
  | false =>
    refine (rcount_no c p x y w hb).mono ?_
    rintro e w1 ⟨he, b⟩
    exact ⟨pl0, he, own_none0 _ _, b⟩

theorem fit_cnt {c : Ce} {x y : Int} (h : Fit c) : Fit (ansN c x y) := by
  unfold ansN
  split
  · exact h
  · exact fit_none

end Go.Proofs.Ytmojkjhmacnndaa
