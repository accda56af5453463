/-
  Package count's Add, and the document's own, by contracts.
-/
import Derived.Test.YtmojkjhmacnndaaCeGen
import Derived.Test.YtmojkjhmacnndaaGauYes
import Derived.Deep.Cut
namespace Go.Proofs.Ytmojkjhmacnndaa
open Go.RowKit
set_option linter.unusedVariables false
set_option linter.unusedSimpArgs false

/-- May it be counted? -/
def cntB (c : Ce) (x y : Int) : Bool := decide (c.kind = 1) && addB c.re c.im x y
/-- A cell with another number. -/
abbrev cN (c : Ce) (x y : Int) : Ce := ⟨c.kind, c.set, c.time, c.node, c.val, x, y, c.ents, c.elems, c.seen⟩
/-- The cell once (x, y) was added. -/
def cntC (c : Ce) (x y : Int) : Ce := cN c (c.re + x) (c.im + y)

/-- The document's sum at pairs whose sum may be. -/
theorem radd_yes {a b c d : Int} (x y : Int) (h : addB a b c d = true) (hx : x = a + c) (hy : y = b + d) (w : World) :
    Calls Try.prog 16 #[pv a b, pv c d] w fun e w' => e = .returned (.tuple #[pv x y, .int .i64 0]) ∧ Below w.heap.size w w' := by
  have C := radd_any a b c d w
  have e := add_yes h
  rw [e.1, e.2.1, e.2.2] at C
  subst hx hy
  exact C

/-- The document's sum at others. -/
theorem radd_no {a b c d : Int} (h : addB a b c d = false) (w : World) :
    Calls Try.prog 16 #[pv a b, pv c d] w fun e w' => e = .returned (.tuple #[pv 0 0, .int .i64 600]) ∧ Below w.heap.size w w' := by
  have C := radd_any a b c d w
  have e := add_no h
  rw [e.1, e.2.1, e.2.2] at C
  exact C

/-- The end of a call that is refused. -/
theorem cnt_no {fn : Func} {act : Act} {w w2 : World} {o : Obj} {h : Nat} {c : Ce} {p : Pl} {t n : Int} (H : Set3 w h c p t n w2) (hr : fn.results = #[.cell 4 30, .tmp 5]) (h6 : act.tmps[4]? = some (.pointer (some ⟨h + 2, 0, none⟩))) (h7 : act.tmps[5]? = some (.int .i64 800)) (hd : act.defers = []) :
    bodyPost Try.prog fn (fun e w' => e = .returned (.tuple #[ceV ce0 pl0, .int .i64 800]) ∧ Below h w w') Exit.ret act (put10 w2 (h + 2) (.int .i64 0) (.bool false) (.int .i64 0) (.int .i64 0) (.string ByteArray.empty) (.int .i64 0) (.int .i64 0) (.slice none 0 0) (.slice none 0 0) (.slice none 0 0) |>.alloc o) :=
  bodyPost_ret (ret_cell2 hr h6 h7 ((H.2.2.2.put10 _ _ _ _ _ _ _ _ _ _).alloc o)) hd ⟨rfl, (below_put10 H.1 (by omega) _ _ _ _ _ _ _ _ _ _).alloc (by have := H.size; simp; omega) _⟩

set_option maxHeartbeats 1000000 in
set_option maxRecDepth 100000 in
/-- Add refuses. -/
theorem cadd_no (c : Ce) (p : Pl) (x y : Int) (w : World) (hb : cntB c x y = false) :
    Calls Try.prog 7 #[ceV c p, pv x y] w fun e w' => e = .returned (.tuple #[ceV ce0 pl0, .int .i64 800]) ∧ Below w.heap.size w w' := by
  have H0 : Hid (Set3 w w.heap.size c p x y (((w.alloc (.cells (ceL c p).toArray 30)).alloc (.cells #[.int .i64 x, .int .i64 y] 25)).alloc (.cells (ceL ce0 pl0).toArray 30))) := set3_new _ _ _ _ _ _ _ _
  obtain ⟨h, hh⟩ : ∃ h, w.heap.size = h := ⟨_, rfl⟩
  rw [hh] at H0 ⊢
  by_cases hk : c.kind = 1
  · have hk1 : (c.kind != 1) = false := by simpa using hk
    have ha : addB c.re c.im x y = false := by simpa [cntB, hk] using hb
    clear hk hb
    go_enter Try.func7, Try.ntmps7
    go_wp2_with fail
    refine (gadd_no ha _).mono ?_
    rintro e w1 ⟨rfl, b1⟩
    have H2 : Hid (Set3 w h c p x y w1) := H0.out.later b1
    clear b1 H0 ha
    obtain ⟨k, hk⟩ : ∃ k, w1.heap.size = k := ⟨_, rfl⟩
    have hlt : h + 2 < k := by have := H2.out.size; omega
    obtain ⟨s0, s1, s2, s3, s4, s5, s6, s7, s8, s9⟩ := H2.out.2.2.2.ten
    obtain ⟨z0, z1, z2, z3, z4, z5, z6, z7, z8, z9⟩ := H2.out.2.2.2.tenf
    go_wp2_with fail
    exact cnt_no H2.out rfl rfl rfl rfl
  · have hk1 : (c.kind != 1) = true := by simpa using hk
    go_enter Try.func7, Try.ntmps7
    go_wp2_with fail
    exact bodyPost_ret (ret_cell2 rfl rfl rfl H0.out.2.2.2) rfl ⟨rfl, H0.out.1⟩

/-- The end of a call that is taken. -/
theorem cnt_end {fn : Func} {act : Act} {w w1 : World} {o : Obj} {h : Nat} {c d : Ce} {p q : Pl} {t n : Int} (H3 : Set3 w h c p t n w1) (HO : COwn (h + 3) w1 d q) (HN : Nils d q) (hr : fn.results = #[.cell 4 30, .tmp 5]) (h6 : act.tmps[4]? = some (.pointer (some ⟨h + 2, 0, none⟩))) (h7 : act.tmps[5]? = some (.int .i64 0)) (hd : act.defers = []) :
    bodyPost Try.prog fn (fun e w' => ∃ q, e = .returned (.tuple #[ceV d q, .int .i64 0]) ∧ COwn h w' d q ∧ Nils d q ∧ Below h w w') Exit.ret act (put10 w1 (h + 2) (.int .i64 d.kind) (.bool d.set) (.int .i64 d.time) (.int .i64 d.node) (.string d.val) (.int .i64 d.re) (.int .i64 d.im) (.slice q.eo d.ents.length q.ec) (.slice q.lo d.elems.length q.lc) (.slice q.so d.seen.length q.sc) |>.alloc o) :=
  bodyPost_ret (ret_cell2 hr h6 h7 ((H3.2.2.2.put10 _ _ _ _ _ _ _ _ _ _).alloc o)) hd ⟨q, rfl, ((HO.put10 (by omega) _ _ _ _ _ _ _ _ _ _).mono (by omega)).later ((Below.refl _ _).alloc (Nat.le_refl _) _), HN, (below_put10 H3.1 (by omega) _ _ _ _ _ _ _ _ _ _).alloc (by have := H3.size; simp; omega) _⟩

set_option maxHeartbeats 2000000 in
set_option maxRecDepth 100000 in
/-- Add takes it. -/
theorem cadd_yes (c : Ce) (p : Pl) (x y : Int) (w : World) (hr : CRow w c p) (hf : Fit c) (hb : cntB c x y = true) :
    Calls Try.prog 7 #[ceV c p, pv x y] w fun e w' => ∃ q, e = .returned (.tuple #[ceV (cntC c x y) q, .int .i64 0]) ∧ COwn w.heap.size w' (cntC c x y) q ∧ Nils (cntC c x y) q ∧ Below w.heap.size w w' := by
  have H0 : Hid (Set3 w w.heap.size c p x y (((w.alloc (.cells (ceL c p).toArray 30)).alloc (.cells #[.int .i64 x, .int .i64 y] 25)).alloc (.cells (ceL ce0 pl0).toArray 30))) := set3_new _ _ _ _ _ _ _ _
  obtain ⟨h, hh⟩ : ∃ h, w.heap.size = h := ⟨_, rfl⟩
  rw [hh] at H0 ⊢
  have HR : Hid (CRow w c p ∧ Fit c) := ⟨hr, hf⟩
  simp only [cntB, Bool.and_eq_true, decide_eq_true_eq] at hb
  obtain ⟨hk, ha⟩ := hb
  have hk1 : (c.kind != 1) = false := by simpa using hk
  clear hr hf hk
  obtain ⟨X, eX⟩ : ∃ X, X = c.re + x := ⟨_, rfl⟩
  obtain ⟨Y, eY⟩ : ∃ Y, Y = c.im + y := ⟨_, rfl⟩
  have C1 := gadd_yes X Y ha eX eY
  have ed : cntC c x y = cN c X Y := by rw [eX, eY]; rfl
  rw [ed]
  clear eX eY ed ha
  go_enter Try.func7, Try.ntmps7
  go_wp2_with fail
  refine (C1 _).mono ?_
  rintro e w1 ⟨rfl, b1⟩
  have H1 : Hid (Set3 w h c p x y w1) := H0.out.later b1
  clear b1 H0 C1
  obtain ⟨g, hg⟩ : ∃ g, w1.heap.size = g := ⟨_, rfl⟩
  have H2 : Hid (Set3 w h c p x y (w1.alloc (.cells #[.int .i64 X, .int .i64 Y] 25)) ∧ Has (w1.alloc (.cells #[.int .i64 X, .int .i64 Y] 25)) g [.int .i64 X, .int .i64 Y]) :=
    ⟨H1.out.later ((Below.refl _ _).alloc (Nat.le_refl _) _), hg ▸ has_new w1 [.int .i64 X, .int .i64 Y] _⟩
  have hlt : h < g := by have := H1.out.size; omega
  have hlt3 : h + 3 ≤ g := by have := H1.out.size; omega
  obtain ⟨t0, t1, t2, t3, t4, t5, t6, t7, t8, t9⟩ := H1.out.2.1.ten
  go_wp2_with fail
  refine (fcell_any c p _ (HR.out.1.later (hh.symm ▸ H2.out.1.1)) HR.out.2).mono ?_
  rintro e w2 ⟨q, rfl, o2, n2, b2⟩
  have H3 : Hid (Set3 w h c p x y w2 ∧ Has w2 g [.int .i64 X, .int .i64 Y]) := ⟨H2.out.1.later b2, H2.out.2.later b2⟩
  have HO : Hid (COwn (h + 3) w2 c q ∧ Nils c q) := ⟨o2.mono H2.out.1.size, n2⟩
  clear t0 t1 t2 t3 t4 t5 t6 t7 t8 t9 b2 o2 n2 H1 H2 hg
  obtain ⟨k, hk⟩ : ∃ k, w2.heap.size = k := ⟨_, rfl⟩
  have hgk : g < k := by have := H3.out.2.1; omega
  have hl2 : h + 2 < k := by omega
  have x0 := H3.out.2.at 0 rfl
  have x1 := H3.out.2.at 1 rfl
  obtain ⟨s0, s1, s2, s3, s4, s5, s6, s7, s8, s9⟩ := H3.out.1.2.2.2.ten
  obtain ⟨z0, z1, z2, z3, z4, z5, z6, z7, z8, z9⟩ := H3.out.1.2.2.2.tenf
  go_wp2_with fail
  exact cnt_end (d := cN c X Y) (q := q) H3.out.1 HO.out.1 HO.out.2 rfl rfl rfl rfl

end Go.Proofs.Ytmojkjhmacnndaa
