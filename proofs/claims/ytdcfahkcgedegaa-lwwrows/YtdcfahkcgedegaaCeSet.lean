/-
  Package lww's Set, and the document's own, by contracts: stamps and values that may not be.
-/
import Derived.Test.YtdcfahkcgedegaaCeFresh
import Derived.Test.YtdcfahkcgedegaaDot
namespace Go.Proofs.Ytdcfahkcgedegaa
open Go.RowKit
set_option linter.unusedVariables false
set_option linter.unusedSimpArgs false

/-- May it be a writer's stamp? -/
def mayS (t n : Int) : Bool := decide (1 ≤ t ∧ t ≤ 16777215 ∧ 0 ≤ n ∧ n < 16)
/-- May it be written? -/
def setB (c : Ce) (t n : Int) (v : ByteArray) : Bool := decide (c.kind = 0) && mayS t n && decide (v.size ≤ 256)
/-- A cell with another stamp and value. -/
abbrev c4 (c : Ce) (b : Bool) (t n : Int) (v : ByteArray) : Ce := ⟨c.kind, b, t, n, v, c.re, c.im, c.ents, c.elems, c.seen⟩
/-- The cell once v was written at (t, n). -/
def setC (c : Ce) (t n : Int) (v : ByteArray) : Ce := if !c.set || lessB c.time c.node t n then c4 c true t n v else c

theorem lmay_any (t n : Int) (w : World) :
    Calls Try.prog 15 #[.agg #[.int .i64 t, .int .i64 n]] w fun e w' => e = .returned (.bool (mayS t n)) ∧ Below w.heap.size w w' := by
  go_enter Try.func15, Try.ntmps15
  go_wp2
  all_goals (go_ret; exact ⟨ret_bool (by unfold mayS; rw [Bool.eq_iff_iff]; simp; omega), (Below.refl _ _).alloc (Nat.le_refl _) _⟩)

theorem rstamp_any (t n : Int) (w : World) :
    Calls Try.prog 19 #[.agg #[.int .i64 t, .int .i64 n], .int .i64 16] w fun e w' => e = .returned (.bool (mayS t n)) ∧ Below w.heap.size w w' := by
  go_enter Try.func19, Try.ntmps19
  go_wp2
  all_goals (go_ret; exact ⟨ret_bool (by unfold mayS; rw [Bool.eq_iff_iff]; simp; omega), (Below.refl _ _).alloc (Nat.le_refl _) _⟩)

theorem Has.two {w : World} {g : Nat} {u0 u1 : Value} (h : Has w g [u0, u1]) : w.cell? ⟨g, 0, none⟩ = some u0 ∧ w.cell? ⟨g, 1, none⟩ = some u1 := ⟨h.at 0 rfl, h.at 1 rfl⟩

/-- What a call of Set begins with: the cell, the stamp, room for the answer. -/
def Set3 (w : World) (h : Nat) (c : Ce) (p : Pl) (t n : Int) (w1 : World) : Prop := Below h w w1 ∧ Has w1 h (ceL c p) ∧ Has w1 (h + 1) [.int .i64 t, .int .i64 n] ∧ Has w1 (h + 2) (ceL ce0 pl0)

theorem set3_new (w : World) (c : Ce) (p : Pl) (t n : Int) (t1 t2 t3 : TypeId) : Set3 w w.heap.size c p t n (((w.alloc (.cells (ceL c p).toArray t1)).alloc (.cells #[.int .i64 t, .int .i64 n] t2)).alloc (.cells (ceL ce0 pl0).toArray t3)) := by
  refine ⟨(((Below.refl _ _).alloc (Nat.le_refl _) _).alloc (by simp) _).alloc (by simp; omega) _, ((has_new _ _ _).alloc _).alloc _, ?_, ?_⟩
  · have := (has_new (w.alloc (.cells (ceL c p).toArray t1)) [.int .i64 t, .int .i64 n] t2).alloc (.cells (ceL ce0 pl0).toArray t3)
    simpa using this
  · have := has_new ((w.alloc (.cells (ceL c p).toArray t1)).alloc (.cells #[.int .i64 t, .int .i64 n] t2)) (ceL ce0 pl0) t3
    simpa using this

theorem Set3.size {w w1 : World} {h : Nat} {c : Ce} {p : Pl} {t n : Int} (H : Set3 w h c p t n w1) : h + 3 ≤ w1.heap.size := by have := H.2.2.2.1; omega

theorem Set3.later {w w1 w2 : World} {h : Nat} {c : Ce} {p : Pl} {t n : Int} (H : Set3 w h c p t n w1) (hb : Below w1.heap.size w1 w2) : Set3 w h c p t n w2 :=
  ⟨H.1.trans (hb.mono (by have := H.size; omega)), H.2.1.later hb, H.2.2.1.later hb, H.2.2.2.later hb⟩

/-- The end of a call of Set that is refused. -/
theorem set_no {fn : Func} {act : Act} {w w2 : World} {h : Nat} {c : Ce} {p : Pl} {t n : Int} (H : Set3 w h c p t n w2) (hr : fn.results = #[.cell 6 30, .tmp 7]) (h6 : act.tmps[6]? = some (.pointer (some ⟨h + 2, 0, none⟩))) (h7 : act.tmps[7]? = some (.int .i64 700)) (hd : act.defers = []) :
    bodyPost Try.prog fn (fun e w' => e = .returned (.tuple #[ceV ce0 pl0, .int .i64 700]) ∧ Below h w w') Exit.ret act (put10 w2 (h + 2) (.int .i64 0) (.bool false) (.int .i64 0) (.int .i64 0) (.string ByteArray.empty) (.int .i64 0) (.int .i64 0) (.slice none 0 0) (.slice none 0 0) (.slice none 0 0)) :=
  bodyPost_ret (ret_cell2 hr h6 h7 (H.2.2.2.put10 _ _ _ _ _ _ _ _ _ _)) hd ⟨rfl, below_put10 H.1 (by omega) _ _ _ _ _ _ _ _ _ _⟩

set_option maxHeartbeats 1000000 in
set_option maxRecDepth 100000 in
/-- Set refuses. -/
theorem lset_no (c : Ce) (p : Pl) (t n : Int) (v : ByteArray) (w : World) (hb : setB c t n v = false) (hv : v.size ≤ maxLen) :
    Calls Try.prog 8 #[ceV c p, .agg #[.int .i64 t, .int .i64 n], .string v] w fun e w' => e = .returned (.tuple #[ceV ce0 pl0, .int .i64 700]) ∧ Below w.heap.size w w' := by
  have H0 : Hid (Set3 w w.heap.size c p t n (((w.alloc (.cells (ceL c p).toArray 30)).alloc (.cells #[.int .i64 t, .int .i64 n] 23)).alloc (.cells (ceL ce0 pl0).toArray 30))) := set3_new _ _ _ _ _ _ _ _
  obtain ⟨h, hh⟩ : ∃ h, w.heap.size = h := ⟨_, rfl⟩
  rw [hh] at H0 ⊢
  unfold maxLen at hv
  by_cases hk : c.kind = 0
  · have hk1 : (c.kind != 0) = false := by simpa using hk
    have HK : Hid (c.kind = 0) := hk
    clear hk
    go_enter Try.func8, Try.ntmps8
    go_wp2_with fail
    refine (lmay_any t n _).mono ?_
    rintro e w1 ⟨rfl, b1⟩
    have H1 : Hid (Set3 w h c p t n w1) := H0.out.later b1
    clear b1 H0
    obtain ⟨s0, s1, s2, s3, s4, s5, s6, s7, s8, s9⟩ := H1.out.2.2.2.ten
    obtain ⟨z0, z1, z2, z3, z4, z5, z6, z7, z8, z9⟩ := H1.out.2.2.2.tenf
    cases hm : mayS t n
    · go_wp2_with fail
      exact set_no H1.out rfl rfl rfl rfl
    · have hz : decide ((256 : Int) < (v.size : Int)) = true := by
        simp [setB, HK.out, hm] at hb
        simp; omega
      go_wp2_with fail
      exact set_no H1.out rfl rfl rfl rfl
  · have hk1 : (c.kind != 0) = true := by simpa using hk
    go_enter Try.func8, Try.ntmps8
    go_wp2_with fail
    exact bodyPost_ret (ret_cell2 rfl rfl rfl H0.out.2.2.2) rfl ⟨rfl, H0.out.1⟩

/-- What Set keeps once the copy is made: the answer to be lies in block k. -/
def Set4 (w1 : World) (k : Nat) (d : Ce) (q : Pl) (w2 : World) : Prop := Below k w1 w2 ∧ Has w2 k (ceL d q)

theorem Set4.later {w1 w2 w3 : World} {k : Nat} {d : Ce} {q : Pl} (H : Set4 w1 k d q w2) (hb : Below w2.heap.size w2 w3) : Set4 w1 k d q w3 := ⟨H.1.trans (hb.mono (by have := H.2.1; omega)), H.2.later hb⟩

theorem set4_new {w1 : World} {k : Nat} (hk : w1.heap.size = k) (c : Ce) (q : Pl) (t1 : TypeId) : Set4 w1 k c q (w1.alloc (.cells (ceL c q).toArray t1)) := by
  subst hk
  exact ⟨(Below.refl _ _).alloc (Nat.le_refl _) _, has_new _ _ _⟩

theorem Set4.s1 {w1 w2 : World} {k : Nat} {c : Ce} {b : Bool} {t n : Int} {v : ByteArray} {q : Pl} (H : Set4 w1 k (c4 c b t n v) q w2) : Set4 w1 k (c4 c true t n v) q (w2.setCell ⟨k, 1, none⟩ (.bool true)) := ⟨H.1.setCell (p := ⟨k, 1, none⟩) (Nat.le_refl _) _, H.2.put 1 _⟩
theorem Set4.s2 {w1 w2 : World} {k : Nat} {c : Ce} {b : Bool} {t n : Int} {v : ByteArray} {q : Pl} (H : Set4 w1 k (c4 c b t n v) q w2) (t' n' : Int) : Set4 w1 k (c4 c b t' n' v) q ((w2.setCell ⟨k, 2, none⟩ (.int .i64 t')).setCell ⟨k, 3, none⟩ (.int .i64 n')) := ⟨(H.1.setCell (p := ⟨k, 2, none⟩) (Nat.le_refl _) _).setCell (p := ⟨k, 3, none⟩) (Nat.le_refl _) _, (H.2.put 2 _).put 3 _⟩
theorem Set4.s3 {w1 w2 : World} {k : Nat} {c : Ce} {b : Bool} {t n : Int} {v : ByteArray} {q : Pl} (H : Set4 w1 k (c4 c b t n v) q w2) (v' : ByteArray) : Set4 w1 k (c4 c b t n v') q (w2.setCell ⟨k, 4, none⟩ (.string v')) := ⟨H.1.setCell (p := ⟨k, 4, none⟩) (Nat.le_refl _) _, H.2.put 4 _⟩

/-- The end of a call of Set. -/
theorem set_end {fn : Func} {act : Act} {w w1 w2 : World} {h k : Nat} {c d : Ce} {p q : Pl} {t n : Int} (H3 : Set3 w h c p t n w1) (hk : w1.heap.size = k) (HO : COwn (h + 3) w1 d q) (HN : Nils d q) (H : Below k w1 w2) (hr : fn.results = #[.cell 6 30, .tmp 7]) (h6 : act.tmps[6]? = some (.pointer (some ⟨h + 2, 0, none⟩))) (h7 : act.tmps[7]? = some (.int .i64 0)) (hd : act.defers = []) :
    bodyPost Try.prog fn (fun e w' => ∃ q, e = .returned (.tuple #[ceV d q, .int .i64 0]) ∧ COwn h w' d q ∧ Nils d q ∧ Below h w w') Exit.ret act (put10 w2 (h + 2) (.int .i64 d.kind) (.bool d.set) (.int .i64 d.time) (.int .i64 d.node) (.string d.val) (.int .i64 d.re) (.int .i64 d.im) (.slice q.eo d.ents.length q.ec) (.slice q.lo d.elems.length q.lc) (.slice q.so d.seen.length q.sc)) := by
  subst hk
  have H5 := H3.later H
  exact bodyPost_ret (ret_cell2 hr h6 h7 (H5.2.2.2.put10 _ _ _ _ _ _ _ _ _ _)) hd ⟨q, rfl, ((HO.later H).put10 (by omega) _ _ _ _ _ _ _ _ _ _).mono (by omega), HN, below_put10 H5.1 (by omega) _ _ _ _ _ _ _ _ _ _⟩


set_option maxHeartbeats 4000000 in
set_option maxRecDepth 100000 in
theorem lset_keep (c : Ce) (p : Pl) (t n : Int) (v : ByteArray) (w : World) (hr : CRow w c p) (hf : Fit c) (hb : setB c t n v = true) (hs : c.set = true) (hl : lessB c.time c.node t n = false) :
    Calls Try.prog 8 #[ceV c p, .agg #[.int .i64 t, .int .i64 n], .string v] w fun e w' => ∃ q, e = .returned (.tuple #[ceV (c) q, .int .i64 0]) ∧ COwn w.heap.size w' (c) q ∧ Nils (c) q ∧ Below w.heap.size w w' := by
  have H0 : Hid (Set3 w w.heap.size c p t n (((w.alloc (.cells (ceL c p).toArray 30)).alloc (.cells #[.int .i64 t, .int .i64 n] 23)).alloc (.cells (ceL ce0 pl0).toArray 30))) := set3_new _ _ _ _ _ _ _ _
  obtain ⟨h, hh⟩ : ∃ h, w.heap.size = h := ⟨_, rfl⟩
  rw [hh] at H0 ⊢
  have HR : Hid (CRow w c p ∧ Fit c) := ⟨hr, hf⟩
  simp only [setB, Bool.and_eq_true, decide_eq_true_eq] at hb
  obtain ⟨⟨hk, hm⟩, hv⟩ := hb
  have hk1 : (c.kind != 0) = false := by simpa using hk
  have hz : decide ((256 : Int) < (v.size : Int)) = false := by simp; omega
  have HS : Hid (c.set = true) := hs
  clear hs
  clear hr hf hk
  go_enter Try.func8, Try.ntmps8
  go_wp2_with fail
  refine (lmay_any t n _).mono ?_
  rintro e w1 ⟨rfl, b1⟩
  have H1 : Hid (Set3 w h c p t n w1) := H0.out.later b1
  clear b1 H0
  obtain ⟨t0, t1, t2, t3, t4, t5, t6, t7, t8, t9⟩ := H1.out.2.1.ten
  go_wp2_with fail
  refine (fcell_any c p _ (HR.out.1.later (hh.symm ▸ H1.out.1)) HR.out.2).mono ?_
  rintro e w2 ⟨q, rfl, o2, n2, b2⟩
  have H2 : Hid (Set3 w h c p t n w2) := H1.out.later b2
  have HO : Hid (COwn (h + 3) w2 c q ∧ Nils c q) := ⟨o2.mono H1.out.size, n2⟩
  clear t0 t1 t2 t3 t4 t5 t6 t7 t8 t9 b2 o2 n2 H1
  obtain ⟨k, hk⟩ : ∃ k, w2.heap.size = k := ⟨_, rfl⟩
  have H4 : Hid (Set4 w2 k c q (w2.alloc (.cells (ceL c q).toArray 30))) := set4_new hk c q _
  have hlt : h + 3 ≤ k := by have := H2.out.size; omega
  have x1 := H2.out.2.1.at 1 rfl
  have x2 := H2.out.2.1.at 2 rfl
  have x3 := H2.out.2.1.at 3 rfl
  have y0 := H2.out.2.2.1.at 0 rfl
  have y1 := H2.out.2.2.1.at 1 rfl
  have hl0 : h < k := by omega
  have hl1 : h + 1 < k := by omega
  have hl2 : h + 2 < k := by omega
  rw [HS.out] at x1
  go_wp2_with fail
  refine (less_any c.time c.node t n _).mono ?_
  rintro e w3 ⟨rfl, b3⟩
  have H5 : Hid (Set4 w2 k c q w3) := H4.out.later b3
  clear b3 H4
  obtain ⟨t0, t1, t2, t3, t4, t5, t6, t7, t8, t9⟩ := H5.out.2.ten
  obtain ⟨s0, s1, s2, s3, s4, s5, s6, s7, s8, s9⟩ := (H2.out.later (hk.symm ▸ H5.out.1)).2.2.2.ten
  obtain ⟨z0, z1, z2, z3, z4, z5, z6, z7, z8, z9⟩ := (H2.out.later (hk.symm ▸ H5.out.1)).2.2.2.tenf
  go_wp2_with fail
  exact set_end (d := c) (q := q) H2.out hk HO.out.1 HO.out.2 H5.out.1 rfl rfl rfl rfl

end Go.Proofs.Ytdcfahkcgedegaa
