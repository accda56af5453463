/-
  The walk of the law Rgas, at whatever comes as its arguments.
-/
import Derived.Test.YtaakhpibdpgjpaaAl9
import Derived.Test.YtaakhpibdpgjpaaAll10
import Derived.Test.YtaakhpibdpgjpaaAwake10
import Derived.Test.YtaakhpibdpgjpaaOpen10
namespace Go.Proofs.Ytaakhpibdpgjpaa.Rgas
open Go.RowKit Go.Shelf
set_option linter.unusedVariables false
set_option linter.unusedSimpArgs false

theorem lens_none : Lens ce0 := ⟨by simp [ce0], by simp [ce0], by simp [ce0]⟩
theorem lens_cL {c : Ce} (hf : Fit c) {l : List L5} (hl : l.length ≤ c.elems.length + 1) : Lens (cL c l) := by
  obtain ⟨f1, f2, f3, _⟩ := hf
  exact ⟨by show c.ents.length ≤ _; omega, by show l.length ≤ _; omega, by show c.seen.length ≤ _; omega⟩
theorem lens_ins {c : Ce} (hf : Fit c) (e : L5) (d : D2) : Lens (ansI c e d).1 := by
  unfold ansI
  split
  · split
    · rename_i L hL
      exact lens_cL hf (by rw [insL_len hL]; omega)
    · exact lens_none
  · exact lens_none
theorem lens_era {c : Ce} (hf : Fit c) (d : D2) : Lens (ansR c d).1 := by
  unfold ansR
  split
  · split
    · rename_i L hL
      refine lens_cL hf ?_
      unfold eraL at hL
      obtain ⟨k, _, rfl⟩ := Option.map_eq_some_iff.1 hL
      rw [List.length_modify]
      omega
    · exact lens_none
  · exact lens_none
theorem lens_com {c : Ce} (hf : Fit c) : Lens (ansK c) := by
  unfold ansK
  split
  · exact lens_cL hf (by have := live_le c.elems; omega)
  · exact lens_none
theorem len_val {c : Ce} (hf : Fit c) : (ansX c).length ≤ maxLen := by
  have f2 := hf.2.1
  unfold ansX maxLen
  split
  · have := valsX_le c.elems
    omega
  · simp

/-- What the law begins with. -/
def L3 (w : World) (h : Nat) (c : Ce) (p : Pl) (e : L5) (d : D2) (w1 : World) : Prop := Below h w w1 ∧ Has w1 h (ceL c p) ∧ Has w1 (h + 1) (l5 e) ∧ Has w1 (h + 2) [.int .i64 d.1, .int .i64 d.2]
theorem l3_new (w : World) (c : Ce) (p : Pl) (e : L5) (d : D2) (t1 t2 t3 : TypeId) : L3 w w.heap.size c p e d (((w.alloc (.cells (ceL c p).toArray t1)).alloc (.cells (l5 e).toArray t2)).alloc (.cells #[.int .i64 d.1, .int .i64 d.2] t3)) := by
  refine ⟨(((Below.refl _ _).alloc (Nat.le_refl _) _).alloc (by simp) _).alloc (by simp; omega) _, ((has_new _ _ _).alloc _).alloc _, ?_, ?_⟩
  · have := (has_new (w.alloc (.cells (ceL c p).toArray t1)) (l5 e) t2).alloc (.cells #[.int .i64 d.1, .int .i64 d.2] t3)
    simpa using this
  · have := has_new ((w.alloc (.cells (ceL c p).toArray t1)).alloc (.cells (l5 e).toArray t2)) [.int .i64 d.1, .int .i64 d.2] t3
    simpa using this
theorem L3.size {w w1 : World} {h : Nat} {c : Ce} {p : Pl} {e : L5} {d : D2} (H : L3 w h c p e d w1) : h + 3 ≤ w1.heap.size := by have := H.2.2.2.1; omega
theorem L3.later {w w1 w2 : World} {h : Nat} {c : Ce} {p : Pl} {e : L5} {d : D2} (H : L3 w h c p e d w1) (hb : Below w1.heap.size w1 w2) : L3 w h c p e d w2 :=
  ⟨H.1.trans (hb.mono (by have := H.size; omega)), H.2.1.later hb, H.2.2.1.later hb, H.2.2.2.later hb⟩

set_option maxHeartbeats 8000000 in
set_option maxRecDepth 100000 in
theorem core (c : Ce) (p : Pl) (e : L5) (d : D2) (k : Int) (w : World) (hr : CRow w c p) (hf : Fit c) (hcap : c.elems.length ≤ p.lc) (hv : e.val.size ≤ maxLen) :
    Calls Try.prog 3 #[ceV c p, lv e, dv d, .int .i64 k] w fun e w' => e = .returned (.bool true) ∧ Below w.heap.size w w' := by
  obtain ⟨en, es, et, ev, eg⟩ := e
  obtain ⟨d1, d2⟩ := d
  have H0 : Hid (L3 w w.heap.size c p ⟨en, es, et, ev, eg⟩ (d1, d2) (((w.alloc (.cells (ceL c p).toArray 30)).alloc (.cells (l5 ⟨en, es, et, ev, eg⟩).toArray 34)).alloc (.cells #[.int .i64 d1, .int .i64 d2] 32))) := l3_new _ _ _ _ _ _ _ _
  have CI : Hid (∀ (q : Pl) (W : World), CRow W c q → Calls Try.prog 10 #[ceV c q, lv ⟨en, es, et, ev, eg⟩, dv (d1, d2)] W fun r w' => ∃ q', r = .returned (.tuple #[ceV (ansI c ⟨en, es, et, ev, eg⟩ (d1, d2)).1 q', .int .i64 (ansI c ⟨en, es, et, ev, eg⟩ (d1, d2)).2]) ∧ COwn W.heap.size w' (ansI c ⟨en, es, et, ev, eg⟩ (d1, d2)).1 q' ∧ Below W.heap.size W w') := fun q W hq => ins_all c q _ _ W hq hf hv
  have RI : Hid (∀ (W : World), CRow W c p → Calls Try.prog 11 #[ceV c p, lv ⟨en, es, et, ev, eg⟩, dv (d1, d2)] W fun r w' => ∃ q', r = .returned (.tuple #[ceV (ansI c ⟨en, es, et, ev, eg⟩ (d1, d2)).1 q', .int .i64 (ansI c ⟨en, es, et, ev, eg⟩ (d1, d2)).2]) ∧ COwn W.heap.size w' (ansI c ⟨en, es, et, ev, eg⟩ (d1, d2)).1 q' ∧ Below W.heap.size W w') := fun W hq => rins_all c p _ _ W hq hf hcap hv
  have CR : Hid (∀ (q : Pl) (W : World), CRow W c q → Calls Try.prog 12 #[ceV c q, dv (d1, d2)] W fun r w' => ∃ q', r = .returned (.tuple #[ceV (ansR c (d1, d2)).1 q', .int .i64 (ansR c (d1, d2)).2]) ∧ COwn W.heap.size w' (ansR c (d1, d2)).1 q' ∧ Below W.heap.size W w') := fun q W hq => era_all c q _ W hq hf
  have RR : Hid (∀ (q : Pl) (W : World), CRow W c q → Calls Try.prog 13 #[ceV c q, dv (d1, d2)] W fun r w' => ∃ q', r = .returned (.tuple #[ceV (ansR c (d1, d2)).1 q', .int .i64 (ansR c (d1, d2)).2]) ∧ COwn W.heap.size w' (ansR c (d1, d2)).1 q' ∧ Below W.heap.size W w') := fun q W hq => rera_all c q _ W hq hf
  have CK : Hid (∀ (q : Pl) (W : World), CRow W c q → Calls Try.prog 14 #[ceV c q] W fun r w' => ∃ q', r = .returned (.tuple #[ceV (ansK c) q', .int .i64 (numK c)]) ∧ COwn W.heap.size w' (ansK c) q' ∧ Below W.heap.size W w') := fun q W hq => com_all c q W hq hf
  have RK : Hid (∀ (q : Pl) (W : World), CRow W c q → Calls Try.prog 15 #[ceV c q] W fun r w' => ∃ q', r = .returned (.tuple #[ceV (ansK c) q', .int .i64 (numK c)]) ∧ COwn W.heap.size w' (ansK c) q' ∧ Below W.heap.size W w') := fun q W hq => rcom_all c q W hq hf
  have CX : Hid (∀ (q : Pl) (W : World), CRow W c q → Calls Try.prog 16 #[ceV c q] W fun r w' => ∃ ao ca, r = .returned (.tuple #[.slice ao (ansX c).length ca, .int .i64 (numK c)]) ∧ FOwn W.heap.size w' ao (flatT (ansX c)) ∧ Below W.heap.size W w') := fun q W hq => xvals_all c q W hq hf
  have RX : Hid (∀ (q : Pl) (W : World), CRow W c q → Calls Try.prog 17 #[ceV c q] W fun r w' => ∃ ao ca, r = .returned (.tuple #[.slice ao (ansX c).length ca, .int .i64 (numK c)]) ∧ FOwn W.heap.size w' ao (flatT (ansX c)) ∧ Below W.heap.size W w') := fun q W hq => rlvals_all c q W hq hf
  have CA : Hid (∀ (q : Pl) (W : World), CRow W c q → Calls Try.prog 18 #[ceV c q, .int .i64 k] W fun r w' => r = .returned (.tuple #[dv (ansA c k).1, .int .i64 (ansA c k).2]) ∧ Below W.heap.size W w') := fun q W hq => rat_all c q k W hq hf
  have RA : Hid (∀ (q : Pl) (W : World), CRow W c q → Calls Try.prog 19 #[ceV c q, .int .i64 k] W fun r w' => r = .returned (.tuple #[dv (ansA c k).1, .int .i64 (ansA c k).2]) ∧ Below W.heap.size W w') := fun q W hq => rrat_all c q k W hq hf
  have LI : Hid (Lens (ansI c ⟨en, es, et, ev, eg⟩ (d1, d2)).1) := lens_ins hf _ _
  have LR : Hid (Lens (ansR c (d1, d2)).1) := lens_era hf _
  have LK : Hid (Lens (ansK c)) := lens_com hf
  have LX : Hid ((ansX c).length ≤ maxLen) := len_val hf
  generalize ansI c ⟨en, es, et, ev, eg⟩ (d1, d2) = ai at CI RI LI
  generalize ansR c (d1, d2) = ar at CR RR LR
  generalize ansK c = AK at CK RK LK
  generalize ansX c = XV at CX RX LX
  generalize ansA c k = aa at CA RA
  generalize numK c = NK at CK RK CX RX
  obtain ⟨AI, NI⟩ := ai
  obtain ⟨AR, NR⟩ := ar
  obtain ⟨⟨ad1, ad2⟩, NA⟩ := aa
  obtain ⟨h, hh⟩ : ∃ h, w.heap.size = h := ⟨_, rfl⟩
  rw [hh] at H0 ⊢
  have HR : Hid (CRow w c p ∧ Fit c ∧ w.heap.size = h) := ⟨hr, hf, hh⟩
  clear hr hf hcap hv
  go_enter Try.func3, Try.ntmps3
  go_wp2_with fail
  refine (copyCell_any c p _ (HR.out.1.later (hh.symm ▸ H0.out.1)) HR.out.2.1).mono ?_
  rintro e u ⟨x, rfl, o1, b1⟩
  obtain ⟨k1, hk1⟩ : ∃ k, u.heap.size = k := ⟨_, rfl⟩
  have hu := (H0.out.later b1).size
  have HU : Hid (CRow u c p ∧ CRow u c x ∧ u.heap.size = k1) := ⟨HR.out.1.later (HR.out.2.2.symm ▸ (H0.out.later b1).1), o1.row, hk1⟩
  have lk1 : h + 2 < k1 := by omega
  have A0 : Hid (Al h w k1 u [(k1, ceL c x), (h, ceL c p), (h + 1, [.int .i64 en, .int .i64 es, .int .i64 et, .string ev, .bool eg]), (h + 2, [.int .i64 d1, .int .i64 d2])] [] [] (u.alloc (.cells (ceL c x).toArray 30))) := by
    have K := H0.out.later b1
    refine Al.push ⟨K.1, Below.refl _ _, by omega, by omega, fun e he => ?_, fun r hr => by simp at hr, fun t ht => by simp at ht⟩ hk1 _ _
    simp only [List.mem_cons, List.not_mem_nil, or_false] at he
    rcases he with rfl | rfl | rfl
    · exact K.2.1
    · exact K.2.2.1
    · exact K.2.2.2
  clear H0 o1 b1 hu hh
  go_upto_region 2 with fail
  generalize hW : u.alloc (.cells (ceL c x).toArray 30) = w0 at A0 ⊢
  have S0 : Hid (w0.heap.size = k1 + 1) := by show w0.heap.size = _; rw [← hW]; simp [hk1]
  clear hW hk1
  obtain ⟨t0, t1, t2, t3, t4, t5, t6, t7, t8, t9⟩ := (show Has _ _ (ceL c x) from A0.out.bl (k1, ceL c x) (by simp)).ten
  obtain ⟨y0, y1, y2, y3, y4⟩ := (show Has _ _ [.int .i64 en, .int .i64 es, .int .i64 et, .string ev, .bool eg] from A0.out.bl (h + 1, [.int .i64 en, .int .i64 es, .int .i64 et, .string ev, .bool eg]) (by simp)).five
  have r0 := (A0.out.bl (h + 2, [.int .i64 d1, .int .i64 d2]) (by simp)).at 0 rfl
  have r1 := (A0.out.bl (h + 2, [.int .i64 d1, .int .i64 d2]) (by simp)).at 1 rfl
  go_wp2_with fail
  refine (CI.out x _ (HU.out.2.1.later (HU.out.2.2.symm ▸ A0.out.b1))).mono ?_
  rintro e v1 ⟨qa, rfl, o1, b1⟩
  obtain ⟨ka, eka⟩ : ∃ k, v1.heap.size = k := ⟨_, rfl⟩
  have lka : k1 < ka := by have := b1.size; have := S0.out; omega
  have C1 : Hid (Al h w k1 u [(k1, ceL c x), (h, ceL c p), (h + 1, [.int .i64 en, .int .i64 es, .int .i64 et, .string ev, .bool eg]), (h + 2, [.int .i64 d1, .int .i64 d2])] [(qa.eo, flatE AI.ents), (qa.lo, flatL AI.elems), (qa.so, flatI AI.seen)] [⟨k1 + 1, ka, qa.eo, AI.ents.length, 3, 1⟩, ⟨k1 + 1, ka, qa.lo, AI.elems.length, 5, 2⟩, ⟨k1 + 1, ka, qa.so, AI.seen.length, 1, 0⟩] v1) := ((A0.out.later b1).cell o1.row).nums eka (o1.mono (by rw [S0.out]; exact Nat.le_refl _))
  have A1 : Hid (Al h w k1 u [(ka, ceL AI qa), (k1, ceL c x), (h, ceL c p), (h + 1, [.int .i64 en, .int .i64 es, .int .i64 et, .string ev, .bool eg]), (h + 2, [.int .i64 d1, .int .i64 d2])] [(qa.eo, flatE AI.ents), (qa.lo, flatL AI.elems), (qa.so, flatI AI.seen)] [⟨k1 + 1, ka, qa.eo, AI.ents.length, 3, 1⟩, ⟨k1 + 1, ka, qa.lo, AI.elems.length, 5, 2⟩, ⟨k1 + 1, ka, qa.so, AI.seen.length, 1, 0⟩] (v1.alloc (.cells (ceL AI qa).toArray 30))) := C1.out.push eka _ _
  clear A0 C1 S0 o1 b1 t0 t1 t2 t3 t4 t5 t6 t7 t8 t9 y0 y1 y2 y3 y4 r0 r1
  go_upto_region 3 with fail
  generalize hW : v1.alloc (.cells (ceL AI qa).toArray 30) = w1 at A1 ⊢
  have S1 : Hid (w1.heap.size = ka + 1) := by show w1.heap.size = _; rw [← hW]; simp [eka]
  clear hW eka
  obtain ⟨t0, t1, t2, t3, t4, t5, t6, t7, t8, t9⟩ := (show Has _ _ (ceL c p) from A1.out.bl (h, ceL c p) (by simp)).ten
  obtain ⟨y0, y1, y2, y3, y4⟩ := (show Has _ _ [.int .i64 en, .int .i64 es, .int .i64 et, .string ev, .bool eg] from A1.out.bl (h + 1, [.int .i64 en, .int .i64 es, .int .i64 et, .string ev, .bool eg]) (by simp)).five
  have r0 := (A1.out.bl (h + 2, [.int .i64 d1, .int .i64 d2]) (by simp)).at 0 rfl
  have r1 := (A1.out.bl (h + 2, [.int .i64 d1, .int .i64 d2]) (by simp)).at 1 rfl
  go_wp2_with fail
  refine (RI.out _ (HU.out.1.later (HU.out.2.2.symm ▸ A1.out.b1))).mono ?_
  rintro e v2 ⟨qb, rfl, o2, b2⟩
  obtain ⟨kb, ekb⟩ : ∃ k, v2.heap.size = k := ⟨_, rfl⟩
  have lkb : ka < kb := by have := b2.size; have := S1.out; omega
  have C2 : Hid (Al h w k1 u [(ka, ceL AI qa), (k1, ceL c x), (h, ceL c p), (h + 1, [.int .i64 en, .int .i64 es, .int .i64 et, .string ev, .bool eg]), (h + 2, [.int .i64 d1, .int .i64 d2])] [(qb.eo, flatE AI.ents), (qb.lo, flatL AI.elems), (qb.so, flatI AI.seen), (qa.eo, flatE AI.ents), (qa.lo, flatL AI.elems), (qa.so, flatI AI.seen)] [⟨k1 + 1, ka, qa.eo, AI.ents.length, 3, 1⟩, ⟨k1 + 1, ka, qa.lo, AI.elems.length, 5, 2⟩, ⟨k1 + 1, ka, qa.so, AI.seen.length, 1, 0⟩] v2) := (A1.out.later b2).cell o2.row
  have A2 : Hid (Al h w k1 u [(kb, ceL AI qb), (ka, ceL AI qa), (k1, ceL c x), (h, ceL c p), (h + 1, [.int .i64 en, .int .i64 es, .int .i64 et, .string ev, .bool eg]), (h + 2, [.int .i64 d1, .int .i64 d2])] [(qb.eo, flatE AI.ents), (qb.lo, flatL AI.elems), (qb.so, flatI AI.seen), (qa.eo, flatE AI.ents), (qa.lo, flatL AI.elems), (qa.so, flatI AI.seen)] [⟨k1 + 1, ka, qa.eo, AI.ents.length, 3, 1⟩, ⟨k1 + 1, ka, qa.lo, AI.elems.length, 5, 2⟩, ⟨k1 + 1, ka, qa.so, AI.seen.length, 1, 0⟩] (v2.alloc (.cells (ceL AI qb).toArray 30))) := C2.out.push ekb _ _
  clear A1 C2 S1 o2 b2 t0 t1 t2 t3 t4 t5 t6 t7 t8 t9 y0 y1 y2 y3 y4 r0 r1
  go_upto_region 4 with fail
  generalize hW : v2.alloc (.cells (ceL AI qb).toArray 30) = w2 at A2 ⊢
  have S2 : Hid (w2.heap.size = kb + 1) := by show w2.heap.size = _; rw [← hW]; simp [ekb]
  clear hW ekb
  obtain ⟨t0, t1, t2, t3, t4, t5, t6, t7, t8, t9⟩ := (show Has _ _ (ceL c x) from A2.out.bl (k1, ceL c x) (by simp)).ten
  have r0 := (A2.out.bl (h + 2, [.int .i64 d1, .int .i64 d2]) (by simp)).at 0 rfl
  have r1 := (A2.out.bl (h + 2, [.int .i64 d1, .int .i64 d2]) (by simp)).at 1 rfl
  go_wp2_with fail
  refine (CR.out x _ (HU.out.2.1.later (HU.out.2.2.symm ▸ A2.out.b1))).mono ?_
  rintro e v3 ⟨qg, rfl, o3, b3⟩
  obtain ⟨kg, ekg⟩ : ∃ k, v3.heap.size = k := ⟨_, rfl⟩
  have lkg : kb < kg := by have := b3.size; have := S2.out; omega
  have C3 : Hid (Al h w k1 u [(kb, ceL AI qb), (ka, ceL AI qa), (k1, ceL c x), (h, ceL c p), (h + 1, [.int .i64 en, .int .i64 es, .int .i64 et, .string ev, .bool eg]), (h + 2, [.int .i64 d1, .int .i64 d2])] [(qg.eo, flatE AR.ents), (qg.lo, flatL AR.elems), (qg.so, flatI AR.seen), (qb.eo, flatE AI.ents), (qb.lo, flatL AI.elems), (qb.so, flatI AI.seen), (qa.eo, flatE AI.ents), (qa.lo, flatL AI.elems), (qa.so, flatI AI.seen)] [⟨kb + 1, kg, qg.eo, AR.ents.length, 3, 1⟩, ⟨kb + 1, kg, qg.lo, AR.elems.length, 5, 2⟩, ⟨kb + 1, kg, qg.so, AR.seen.length, 1, 0⟩, ⟨k1 + 1, ka, qa.eo, AI.ents.length, 3, 1⟩, ⟨k1 + 1, ka, qa.lo, AI.elems.length, 5, 2⟩, ⟨k1 + 1, ka, qa.so, AI.seen.length, 1, 0⟩] v3) := ((A2.out.later b3).cell o3.row).nums ekg (o3.mono (by rw [S2.out]; exact Nat.le_refl _))
  have A3 : Hid (Al h w k1 u [(kg, ceL AR qg), (kb, ceL AI qb), (ka, ceL AI qa), (k1, ceL c x), (h, ceL c p), (h + 1, [.int .i64 en, .int .i64 es, .int .i64 et, .string ev, .bool eg]), (h + 2, [.int .i64 d1, .int .i64 d2])] [(qg.eo, flatE AR.ents), (qg.lo, flatL AR.elems), (qg.so, flatI AR.seen), (qb.eo, flatE AI.ents), (qb.lo, flatL AI.elems), (qb.so, flatI AI.seen), (qa.eo, flatE AI.ents), (qa.lo, flatL AI.elems), (qa.so, flatI AI.seen)] [⟨kb + 1, kg, qg.eo, AR.ents.length, 3, 1⟩, ⟨kb + 1, kg, qg.lo, AR.elems.length, 5, 2⟩, ⟨kb + 1, kg, qg.so, AR.seen.length, 1, 0⟩, ⟨k1 + 1, ka, qa.eo, AI.ents.length, 3, 1⟩, ⟨k1 + 1, ka, qa.lo, AI.elems.length, 5, 2⟩, ⟨k1 + 1, ka, qa.so, AI.seen.length, 1, 0⟩] (v3.alloc (.cells (ceL AR qg).toArray 30))) := C3.out.push ekg _ _
  clear A2 C3 S2 o3 b3 t0 t1 t2 t3 t4 t5 t6 t7 t8 t9 r0 r1
  go_upto_region 5 with fail
  generalize hW : v3.alloc (.cells (ceL AR qg).toArray 30) = w3 at A3 ⊢
  have S3 : Hid (w3.heap.size = kg + 1) := by show w3.heap.size = _; rw [← hW]; simp [ekg]
  clear hW ekg
  obtain ⟨t0, t1, t2, t3, t4, t5, t6, t7, t8, t9⟩ := (show Has _ _ (ceL c p) from A3.out.bl (h, ceL c p) (by simp)).ten
  have r0 := (A3.out.bl (h + 2, [.int .i64 d1, .int .i64 d2]) (by simp)).at 0 rfl
  have r1 := (A3.out.bl (h + 2, [.int .i64 d1, .int .i64 d2]) (by simp)).at 1 rfl
  go_wp2_with fail
  refine (RR.out p _ (HU.out.1.later (HU.out.2.2.symm ▸ A3.out.b1))).mono ?_
  rintro e v4 ⟨qi, rfl, o4, b4⟩
  obtain ⟨ki, eki⟩ : ∃ k, v4.heap.size = k := ⟨_, rfl⟩
  have lki : kg < ki := by have := b4.size; have := S3.out; omega
  have C4 : Hid (Al h w k1 u [(kg, ceL AR qg), (kb, ceL AI qb), (ka, ceL AI qa), (k1, ceL c x), (h, ceL c p), (h + 1, [.int .i64 en, .int .i64 es, .int .i64 et, .string ev, .bool eg]), (h + 2, [.int .i64 d1, .int .i64 d2])] [(qi.eo, flatE AR.ents), (qi.lo, flatL AR.elems), (qi.so, flatI AR.seen), (qg.eo, flatE AR.ents), (qg.lo, flatL AR.elems), (qg.so, flatI AR.seen), (qb.eo, flatE AI.ents), (qb.lo, flatL AI.elems), (qb.so, flatI AI.seen), (qa.eo, flatE AI.ents), (qa.lo, flatL AI.elems), (qa.so, flatI AI.seen)] [⟨kb + 1, kg, qg.eo, AR.ents.length, 3, 1⟩, ⟨kb + 1, kg, qg.lo, AR.elems.length, 5, 2⟩, ⟨kb + 1, kg, qg.so, AR.seen.length, 1, 0⟩, ⟨k1 + 1, ka, qa.eo, AI.ents.length, 3, 1⟩, ⟨k1 + 1, ka, qa.lo, AI.elems.length, 5, 2⟩, ⟨k1 + 1, ka, qa.so, AI.seen.length, 1, 0⟩] v4) := (A3.out.later b4).cell o4.row
  have A4 : Hid (Al h w k1 u [(ki, ceL AR qi), (kg, ceL AR qg), (kb, ceL AI qb), (ka, ceL AI qa), (k1, ceL c x), (h, ceL c p), (h + 1, [.int .i64 en, .int .i64 es, .int .i64 et, .string ev, .bool eg]), (h + 2, [.int .i64 d1, .int .i64 d2])] [(qi.eo, flatE AR.ents), (qi.lo, flatL AR.elems), (qi.so, flatI AR.seen), (qg.eo, flatE AR.ents), (qg.lo, flatL AR.elems), (qg.so, flatI AR.seen), (qb.eo, flatE AI.ents), (qb.lo, flatL AI.elems), (qb.so, flatI AI.seen), (qa.eo, flatE AI.ents), (qa.lo, flatL AI.elems), (qa.so, flatI AI.seen)] [⟨kb + 1, kg, qg.eo, AR.ents.length, 3, 1⟩, ⟨kb + 1, kg, qg.lo, AR.elems.length, 5, 2⟩, ⟨kb + 1, kg, qg.so, AR.seen.length, 1, 0⟩, ⟨k1 + 1, ka, qa.eo, AI.ents.length, 3, 1⟩, ⟨k1 + 1, ka, qa.lo, AI.elems.length, 5, 2⟩, ⟨k1 + 1, ka, qa.so, AI.seen.length, 1, 0⟩] (v4.alloc (.cells (ceL AR qi).toArray 30))) := C4.out.push eki _ _
  clear A3 C4 S3 o4 b4 t0 t1 t2 t3 t4 t5 t6 t7 t8 t9 r0 r1
  go_upto_region 6 with fail
  generalize hW : v4.alloc (.cells (ceL AR qi).toArray 30) = w4 at A4 ⊢
  have S4 : Hid (w4.heap.size = ki + 1) := by show w4.heap.size = _; rw [← hW]; simp [eki]
  clear hW eki
  obtain ⟨t0, t1, t2, t3, t4, t5, t6, t7, t8, t9⟩ := (show Has _ _ (ceL c x) from A4.out.bl (k1, ceL c x) (by simp)).ten
  go_wp2_with fail
  refine (CK.out x _ (HU.out.2.1.later (HU.out.2.2.symm ▸ A4.out.b1))).mono ?_
  rintro e v5 ⟨qo, rfl, o5, b5⟩
  obtain ⟨ko, eko⟩ : ∃ k, v5.heap.size = k := ⟨_, rfl⟩
  have lko : ki < ko := by have := b5.size; have := S4.out; omega
  have C5 : Hid (Al h w k1 u [(ki, ceL AR qi), (kg, ceL AR qg), (kb, ceL AI qb), (ka, ceL AI qa), (k1, ceL c x), (h, ceL c p), (h + 1, [.int .i64 en, .int .i64 es, .int .i64 et, .string ev, .bool eg]), (h + 2, [.int .i64 d1, .int .i64 d2])] [(qo.eo, flatE AK.ents), (qo.lo, flatL AK.elems), (qo.so, flatI AK.seen), (qi.eo, flatE AR.ents), (qi.lo, flatL AR.elems), (qi.so, flatI AR.seen), (qg.eo, flatE AR.ents), (qg.lo, flatL AR.elems), (qg.so, flatI AR.seen), (qb.eo, flatE AI.ents), (qb.lo, flatL AI.elems), (qb.so, flatI AI.seen), (qa.eo, flatE AI.ents), (qa.lo, flatL AI.elems), (qa.so, flatI AI.seen)] [⟨ki + 1, ko, qo.eo, AK.ents.length, 3, 1⟩, ⟨ki + 1, ko, qo.lo, AK.elems.length, 5, 2⟩, ⟨ki + 1, ko, qo.so, AK.seen.length, 1, 0⟩, ⟨kb + 1, kg, qg.eo, AR.ents.length, 3, 1⟩, ⟨kb + 1, kg, qg.lo, AR.elems.length, 5, 2⟩, ⟨kb + 1, kg, qg.so, AR.seen.length, 1, 0⟩, ⟨k1 + 1, ka, qa.eo, AI.ents.length, 3, 1⟩, ⟨k1 + 1, ka, qa.lo, AI.elems.length, 5, 2⟩, ⟨k1 + 1, ka, qa.so, AI.seen.length, 1, 0⟩] v5) := ((A4.out.later b5).cell o5.row).nums eko (o5.mono (by rw [S4.out]; exact Nat.le_refl _))
  have A5 : Hid (Al h w k1 u [(ko, ceL AK qo), (ki, ceL AR qi), (kg, ceL AR qg), (kb, ceL AI qb), (ka, ceL AI qa), (k1, ceL c x), (h, ceL c p), (h + 1, [.int .i64 en, .int .i64 es, .int .i64 et, .string ev, .bool eg]), (h + 2, [.int .i64 d1, .int .i64 d2])] [(qo.eo, flatE AK.ents), (qo.lo, flatL AK.elems), (qo.so, flatI AK.seen), (qi.eo, flatE AR.ents), (qi.lo, flatL AR.elems), (qi.so, flatI AR.seen), (qg.eo, flatE AR.ents), (qg.lo, flatL AR.elems), (qg.so, flatI AR.seen), (qb.eo, flatE AI.ents), (qb.lo, flatL AI.elems), (qb.so, flatI AI.seen), (qa.eo, flatE AI.ents), (qa.lo, flatL AI.elems), (qa.so, flatI AI.seen)] [⟨ki + 1, ko, qo.eo, AK.ents.length, 3, 1⟩, ⟨ki + 1, ko, qo.lo, AK.elems.length, 5, 2⟩, ⟨ki + 1, ko, qo.so, AK.seen.length, 1, 0⟩, ⟨kb + 1, kg, qg.eo, AR.ents.length, 3, 1⟩, ⟨kb + 1, kg, qg.lo, AR.elems.length, 5, 2⟩, ⟨kb + 1, kg, qg.so, AR.seen.length, 1, 0⟩, ⟨k1 + 1, ka, qa.eo, AI.ents.length, 3, 1⟩, ⟨k1 + 1, ka, qa.lo, AI.elems.length, 5, 2⟩, ⟨k1 + 1, ka, qa.so, AI.seen.length, 1, 0⟩] (v5.alloc (.cells (ceL AK qo).toArray 30))) := C5.out.push eko _ _
  clear A4 C5 S4 o5 b5 t0 t1 t2 t3 t4 t5 t6 t7 t8 t9
  go_upto_region 7 with fail
  generalize hW : v5.alloc (.cells (ceL AK qo).toArray 30) = w5 at A5 ⊢
  have S5 : Hid (w5.heap.size = ko + 1) := by show w5.heap.size = _; rw [← hW]; simp [eko]
  clear hW eko
  obtain ⟨t0, t1, t2, t3, t4, t5, t6, t7, t8, t9⟩ := (show Has _ _ (ceL c p) from A5.out.bl (h, ceL c p) (by simp)).ten
  go_wp2_with fail
  refine (RK.out p _ (HU.out.1.later (HU.out.2.2.symm ▸ A5.out.b1))).mono ?_
  rintro e v6 ⟨qr, rfl, o6, b6⟩
  obtain ⟨kr, ekr⟩ : ∃ k, v6.heap.size = k := ⟨_, rfl⟩
  have lkr : ko < kr := by have := b6.size; have := S5.out; omega
  have C6 : Hid (Al h w k1 u [(ko, ceL AK qo), (ki, ceL AR qi), (kg, ceL AR qg), (kb, ceL AI qb), (ka, ceL AI qa), (k1, ceL c x), (h, ceL c p), (h + 1, [.int .i64 en, .int .i64 es, .int .i64 et, .string ev, .bool eg]), (h + 2, [.int .i64 d1, .int .i64 d2])] [(qr.eo, flatE AK.ents), (qr.lo, flatL AK.elems), (qr.so, flatI AK.seen), (qo.eo, flatE AK.ents), (qo.lo, flatL AK.elems), (qo.so, flatI AK.seen), (qi.eo, flatE AR.ents), (qi.lo, flatL AR.elems), (qi.so, flatI AR.seen), (qg.eo, flatE AR.ents), (qg.lo, flatL AR.elems), (qg.so, flatI AR.seen), (qb.eo, flatE AI.ents), (qb.lo, flatL AI.elems), (qb.so, flatI AI.seen), (qa.eo, flatE AI.ents), (qa.lo, flatL AI.elems), (qa.so, flatI AI.seen)] [⟨ki + 1, ko, qo.eo, AK.ents.length, 3, 1⟩, ⟨ki + 1, ko, qo.lo, AK.elems.length, 5, 2⟩, ⟨ki + 1, ko, qo.so, AK.seen.length, 1, 0⟩, ⟨kb + 1, kg, qg.eo, AR.ents.length, 3, 1⟩, ⟨kb + 1, kg, qg.lo, AR.elems.length, 5, 2⟩, ⟨kb + 1, kg, qg.so, AR.seen.length, 1, 0⟩, ⟨k1 + 1, ka, qa.eo, AI.ents.length, 3, 1⟩, ⟨k1 + 1, ka, qa.lo, AI.elems.length, 5, 2⟩, ⟨k1 + 1, ka, qa.so, AI.seen.length, 1, 0⟩] v6) := (A5.out.later b6).cell o6.row
  have A6 : Hid (Al h w k1 u [(kr, ceL AK qr), (ko, ceL AK qo), (ki, ceL AR qi), (kg, ceL AR qg), (kb, ceL AI qb), (ka, ceL AI qa), (k1, ceL c x), (h, ceL c p), (h + 1, [.int .i64 en, .int .i64 es, .int .i64 et, .string ev, .bool eg]), (h + 2, [.int .i64 d1, .int .i64 d2])] [(qr.eo, flatE AK.ents), (qr.lo, flatL AK.elems), (qr.so, flatI AK.seen), (qo.eo, flatE AK.ents), (qo.lo, flatL AK.elems), (qo.so, flatI AK.seen), (qi.eo, flatE AR.ents), (qi.lo, flatL AR.elems), (qi.so, flatI AR.seen), (qg.eo, flatE AR.ents), (qg.lo, flatL AR.elems), (qg.so, flatI AR.seen), (qb.eo, flatE AI.ents), (qb.lo, flatL AI.elems), (qb.so, flatI AI.seen), (qa.eo, flatE AI.ents), (qa.lo, flatL AI.elems), (qa.so, flatI AI.seen)] [⟨ki + 1, ko, qo.eo, AK.ents.length, 3, 1⟩, ⟨ki + 1, ko, qo.lo, AK.elems.length, 5, 2⟩, ⟨ki + 1, ko, qo.so, AK.seen.length, 1, 0⟩, ⟨kb + 1, kg, qg.eo, AR.ents.length, 3, 1⟩, ⟨kb + 1, kg, qg.lo, AR.elems.length, 5, 2⟩, ⟨kb + 1, kg, qg.so, AR.seen.length, 1, 0⟩, ⟨k1 + 1, ka, qa.eo, AI.ents.length, 3, 1⟩, ⟨k1 + 1, ka, qa.lo, AI.elems.length, 5, 2⟩, ⟨k1 + 1, ka, qa.so, AI.seen.length, 1, 0⟩] (v6.alloc (.cells (ceL AK qr).toArray 30))) := C6.out.push ekr _ _
  clear A5 C6 S5 o6 b6 t0 t1 t2 t3 t4 t5 t6 t7 t8 t9
  go_upto_region 8 with fail
  generalize hW : v6.alloc (.cells (ceL AK qr).toArray 30) = w6 at A6 ⊢
  have S6 : Hid (w6.heap.size = kr + 1) := by show w6.heap.size = _; rw [← hW]; simp [ekr]
  clear hW ekr
  obtain ⟨t0, t1, t2, t3, t4, t5, t6, t7, t8, t9⟩ := (show Has _ _ (ceL c x) from A6.out.bl (k1, ceL c x) (by simp)).ten
  go_wp2_with fail
  refine (CX.out x _ (HU.out.2.1.later (HU.out.2.2.symm ▸ A6.out.b1))).mono ?_
  rintro e w7 ⟨vo, cv, rfl, o7, b7⟩
  have A7 : Hid (Al h w k1 u [(kr, ceL AK qr), (ko, ceL AK qo), (ki, ceL AR qi), (kg, ceL AR qg), (kb, ceL AI qb), (ka, ceL AI qa), (k1, ceL c x), (h, ceL c p), (h + 1, [.int .i64 en, .int .i64 es, .int .i64 et, .string ev, .bool eg]), (h + 2, [.int .i64 d1, .int .i64 d2])] [(vo, flatT XV), (qr.eo, flatE AK.ents), (qr.lo, flatL AK.elems), (qr.so, flatI AK.seen), (qo.eo, flatE AK.ents), (qo.lo, flatL AK.elems), (qo.so, flatI AK.seen), (qi.eo, flatE AR.ents), (qi.lo, flatL AR.elems), (qi.so, flatI AR.seen), (qg.eo, flatE AR.ents), (qg.lo, flatL AR.elems), (qg.so, flatI AR.seen), (qb.eo, flatE AI.ents), (qb.lo, flatL AI.elems), (qb.so, flatI AI.seen), (qa.eo, flatE AI.ents), (qa.lo, flatL AI.elems), (qa.so, flatI AI.seen)] [⟨ki + 1, ko, qo.eo, AK.ents.length, 3, 1⟩, ⟨ki + 1, ko, qo.lo, AK.elems.length, 5, 2⟩, ⟨ki + 1, ko, qo.so, AK.seen.length, 1, 0⟩, ⟨kb + 1, kg, qg.eo, AR.ents.length, 3, 1⟩, ⟨kb + 1, kg, qg.lo, AR.elems.length, 5, 2⟩, ⟨kb + 1, kg, qg.so, AR.seen.length, 1, 0⟩, ⟨k1 + 1, ka, qa.eo, AI.ents.length, 3, 1⟩, ⟨k1 + 1, ka, qa.lo, AI.elems.length, 5, 2⟩, ⟨k1 + 1, ka, qa.so, AI.seen.length, 1, 0⟩] w7) := (A6.out.later b7).row o7.row
  have S7 : Hid (kr + 1 ≤ w7.heap.size) := by show _ ≤ _; have := b7.size; have := S6.out; omega
  clear A6 S6 o7 b7 t0 t1 t2 t3 t4 t5 t6 t7 t8 t9
  obtain ⟨t0, t1, t2, t3, t4, t5, t6, t7, t8, t9⟩ := (show Has _ _ (ceL c p) from A7.out.bl (h, ceL c p) (by simp)).ten
  go_wp2_with fail
  refine (RX.out p _ (HU.out.1.later (HU.out.2.2.symm ▸ A7.out.b1))).mono ?_
  rintro e w8 ⟨vp, cw, rfl, o8, b8⟩
  have A8 : Hid (Al h w k1 u [(kr, ceL AK qr), (ko, ceL AK qo), (ki, ceL AR qi), (kg, ceL AR qg), (kb, ceL AI qb), (ka, ceL AI qa), (k1, ceL c x), (h, ceL c p), (h + 1, [.int .i64 en, .int .i64 es, .int .i64 et, .string ev, .bool eg]), (h + 2, [.int .i64 d1, .int .i64 d2])] [(vp, flatT XV), (vo, flatT XV), (qr.eo, flatE AK.ents), (qr.lo, flatL AK.elems), (qr.so, flatI AK.seen), (qo.eo, flatE AK.ents), (qo.lo, flatL AK.elems), (qo.so, flatI AK.seen), (qi.eo, flatE AR.ents), (qi.lo, flatL AR.elems), (qi.so, flatI AR.seen), (qg.eo, flatE AR.ents), (qg.lo, flatL AR.elems), (qg.so, flatI AR.seen), (qb.eo, flatE AI.ents), (qb.lo, flatL AI.elems), (qb.so, flatI AI.seen), (qa.eo, flatE AI.ents), (qa.lo, flatL AI.elems), (qa.so, flatI AI.seen)] [⟨ki + 1, ko, qo.eo, AK.ents.length, 3, 1⟩, ⟨ki + 1, ko, qo.lo, AK.elems.length, 5, 2⟩, ⟨ki + 1, ko, qo.so, AK.seen.length, 1, 0⟩, ⟨kb + 1, kg, qg.eo, AR.ents.length, 3, 1⟩, ⟨kb + 1, kg, qg.lo, AR.elems.length, 5, 2⟩, ⟨kb + 1, kg, qg.so, AR.seen.length, 1, 0⟩, ⟨k1 + 1, ka, qa.eo, AI.ents.length, 3, 1⟩, ⟨k1 + 1, ka, qa.lo, AI.elems.length, 5, 2⟩, ⟨k1 + 1, ka, qa.so, AI.seen.length, 1, 0⟩] w8) := (A7.out.later b8).row o8.row
  have S8 : Hid (kr + 1 ≤ w8.heap.size) := by show _ ≤ _; have := b8.size; have := S7.out; omega
  clear A7 S7 o8 b8 t0 t1 t2 t3 t4 t5 t6 t7 t8 t9
  obtain ⟨t0, t1, t2, t3, t4, t5, t6, t7, t8, t9⟩ := (show Has _ _ (ceL c x) from A8.out.bl (k1, ceL c x) (by simp)).ten
  go_wp2_with fail
  refine (CA.out x _ (HU.out.2.1.later (HU.out.2.2.symm ▸ A8.out.b1))).mono ?_
  rintro e v9 ⟨rfl, b9⟩
  obtain ⟨ky, eky⟩ : ∃ k, v9.heap.size = k := ⟨_, rfl⟩
  have lky : kr < ky := by have := b9.size; have := S8.out; omega
  have A9 : Hid (Al h w k1 u [(ky, [.int .i64 ad1, .int .i64 ad2]), (kr, ceL AK qr), (ko, ceL AK qo), (ki, ceL AR qi), (kg, ceL AR qg), (kb, ceL AI qb), (ka, ceL AI qa), (k1, ceL c x), (h, ceL c p), (h + 1, [.int .i64 en, .int .i64 es, .int .i64 et, .string ev, .bool eg]), (h + 2, [.int .i64 d1, .int .i64 d2])] [(vp, flatT XV), (vo, flatT XV), (qr.eo, flatE AK.ents), (qr.lo, flatL AK.elems), (qr.so, flatI AK.seen), (qo.eo, flatE AK.ents), (qo.lo, flatL AK.elems), (qo.so, flatI AK.seen), (qi.eo, flatE AR.ents), (qi.lo, flatL AR.elems), (qi.so, flatI AR.seen), (qg.eo, flatE AR.ents), (qg.lo, flatL AR.elems), (qg.so, flatI AR.seen), (qb.eo, flatE AI.ents), (qb.lo, flatL AI.elems), (qb.so, flatI AI.seen), (qa.eo, flatE AI.ents), (qa.lo, flatL AI.elems), (qa.so, flatI AI.seen)] [⟨ki + 1, ko, qo.eo, AK.ents.length, 3, 1⟩, ⟨ki + 1, ko, qo.lo, AK.elems.length, 5, 2⟩, ⟨ki + 1, ko, qo.so, AK.seen.length, 1, 0⟩, ⟨kb + 1, kg, qg.eo, AR.ents.length, 3, 1⟩, ⟨kb + 1, kg, qg.lo, AR.elems.length, 5, 2⟩, ⟨kb + 1, kg, qg.so, AR.seen.length, 1, 0⟩, ⟨k1 + 1, ka, qa.eo, AI.ents.length, 3, 1⟩, ⟨k1 + 1, ka, qa.lo, AI.elems.length, 5, 2⟩, ⟨k1 + 1, ka, qa.so, AI.seen.length, 1, 0⟩] (v9.alloc (.cells [.int .i64 ad1, .int .i64 ad2].toArray 32))) := (A8.out.later b9).push eky _ _
  clear A8 S8 b9 t0 t1 t2 t3 t4 t5 t6 t7 t8 t9
  go_upto_region 11 with fail
  generalize hW : v9.alloc (.cells [.int .i64 ad1, .int .i64 ad2].toArray 32) = w9 at A9 ⊢
  have S9 : Hid (w9.heap.size = ky + 1) := by show w9.heap.size = _; rw [← hW]; simp [eky]
  clear hW eky
  obtain ⟨t0, t1, t2, t3, t4, t5, t6, t7, t8, t9⟩ := (show Has _ _ (ceL c p) from A9.out.bl (h, ceL c p) (by simp)).ten
  go_wp2_with fail
  refine (RA.out p _ (HU.out.1.later (HU.out.2.2.symm ▸ A9.out.b1))).mono ?_
  rintro e v10 ⟨rfl, b10⟩
  obtain ⟨kz, ekz⟩ : ∃ k, v10.heap.size = k := ⟨_, rfl⟩
  have lkz : ky < kz := by have := b10.size; have := S9.out; omega
  have A10 : Hid (Al h w k1 u [(kz, [.int .i64 ad1, .int .i64 ad2]), (ky, [.int .i64 ad1, .int .i64 ad2]), (kr, ceL AK qr), (ko, ceL AK qo), (ki, ceL AR qi), (kg, ceL AR qg), (kb, ceL AI qb), (ka, ceL AI qa), (k1, ceL c x), (h, ceL c p), (h + 1, [.int .i64 en, .int .i64 es, .int .i64 et, .string ev, .bool eg]), (h + 2, [.int .i64 d1, .int .i64 d2])] [(vp, flatT XV), (vo, flatT XV), (qr.eo, flatE AK.ents), (qr.lo, flatL AK.elems), (qr.so, flatI AK.seen), (qo.eo, flatE AK.ents), (qo.lo, flatL AK.elems), (qo.so, flatI AK.seen), (qi.eo, flatE AR.ents), (qi.lo, flatL AR.elems), (qi.so, flatI AR.seen), (qg.eo, flatE AR.ents), (qg.lo, flatL AR.elems), (qg.so, flatI AR.seen), (qb.eo, flatE AI.ents), (qb.lo, flatL AI.elems), (qb.so, flatI AI.seen), (qa.eo, flatE AI.ents), (qa.lo, flatL AI.elems), (qa.so, flatI AI.seen)] [⟨ki + 1, ko, qo.eo, AK.ents.length, 3, 1⟩, ⟨ki + 1, ko, qo.lo, AK.elems.length, 5, 2⟩, ⟨ki + 1, ko, qo.so, AK.seen.length, 1, 0⟩, ⟨kb + 1, kg, qg.eo, AR.ents.length, 3, 1⟩, ⟨kb + 1, kg, qg.lo, AR.elems.length, 5, 2⟩, ⟨kb + 1, kg, qg.so, AR.seen.length, 1, 0⟩, ⟨k1 + 1, ka, qa.eo, AI.ents.length, 3, 1⟩, ⟨k1 + 1, ka, qa.lo, AI.elems.length, 5, 2⟩, ⟨k1 + 1, ka, qa.so, AI.seen.length, 1, 0⟩] (v10.alloc (.cells [.int .i64 ad1, .int .i64 ad2].toArray 32))) := (A9.out.later b10).push ekz _ _
  clear A9 S9 b10 t0 t1 t2 t3 t4 t5 t6 t7 t8 t9
  go_upto_region 12 with fail
  generalize hW : v10.alloc (.cells [.int .i64 ad1, .int .i64 ad2].toArray 32) = w10 at A10 ⊢
  have S10 : Hid (w10.heap.size = kz + 1) := by show w10.heap.size = _; rw [← hW]; simp [ekz]
  clear hW ekz
  have hne1 : (NI != NI) = false := by simp
  have hne2 : (NR != NR) = false := by simp
  have hne3 : (NK != NK) = false := by simp
  have hne4 : (NA != NA) = false := by simp
  have hne5 : (ad1 == ad1) = true := by simp
  have hne6 : (ad2 == ad2) = true := by simp
  clear S10
  obtain ⟨t0, t1, t2, t3, t4, t5, t6, t7, t8, t9⟩ := (show Has _ _ (ceL AI qa) from A10.out.bl (ka, ceL AI qa) (by simp)).ten
  obtain ⟨r0, r1, r2, r3, r4, r5, r6, r7, r8, r9⟩ := (show Has _ _ (ceL AI qb) from A10.out.bl (kb, ceL AI qb) (by simp)).ten
  go_wp2_with fail
  refine (sameCell_lens AI qa qb _ (A10.out.crow _ _ (fun r hr => by simp at hr ⊢; rcases hr with rfl | rfl | rfl <;> simp)) (A10.out.crow _ _ (fun r hr => by simp at hr ⊢; rcases hr with rfl | rfl | rfl <;> simp)) LI.out).mono ?_
  rintro e w11 ⟨rfl, b11⟩
  have A11 : Hid (Al h w k1 u [(kz, [.int .i64 ad1, .int .i64 ad2]), (ky, [.int .i64 ad1, .int .i64 ad2]), (kr, ceL AK qr), (ko, ceL AK qo), (ki, ceL AR qi), (kg, ceL AR qg), (kb, ceL AI qb), (ka, ceL AI qa), (k1, ceL c x), (h, ceL c p), (h + 1, [.int .i64 en, .int .i64 es, .int .i64 et, .string ev, .bool eg]), (h + 2, [.int .i64 d1, .int .i64 d2])] [(vp, flatT XV), (vo, flatT XV), (qr.eo, flatE AK.ents), (qr.lo, flatL AK.elems), (qr.so, flatI AK.seen), (qo.eo, flatE AK.ents), (qo.lo, flatL AK.elems), (qo.so, flatI AK.seen), (qi.eo, flatE AR.ents), (qi.lo, flatL AR.elems), (qi.so, flatI AR.seen), (qg.eo, flatE AR.ents), (qg.lo, flatL AR.elems), (qg.so, flatI AR.seen), (qb.eo, flatE AI.ents), (qb.lo, flatL AI.elems), (qb.so, flatI AI.seen), (qa.eo, flatE AI.ents), (qa.lo, flatL AI.elems), (qa.so, flatI AI.seen)] [⟨ki + 1, ko, qo.eo, AK.ents.length, 3, 1⟩, ⟨ki + 1, ko, qo.lo, AK.elems.length, 5, 2⟩, ⟨ki + 1, ko, qo.so, AK.seen.length, 1, 0⟩, ⟨kb + 1, kg, qg.eo, AR.ents.length, 3, 1⟩, ⟨kb + 1, kg, qg.lo, AR.elems.length, 5, 2⟩, ⟨kb + 1, kg, qg.so, AR.seen.length, 1, 0⟩, ⟨k1 + 1, ka, qa.eo, AI.ents.length, 3, 1⟩, ⟨k1 + 1, ka, qa.lo, AI.elems.length, 5, 2⟩, ⟨k1 + 1, ka, qa.so, AI.seen.length, 1, 0⟩] w11) := A10.out.later b11
  clear A10 b11 t0 t1 t2 t3 t4 t5 t6 t7 t8 t9 r0 r1 r2 r3 r4 r5 r6 r7 r8 r9
  obtain ⟨t0, t1, t2, t3, t4, t5, t6, t7, t8, t9⟩ := (show Has _ _ (ceL AR qg) from A11.out.bl (kg, ceL AR qg) (by simp)).ten
  obtain ⟨r0, r1, r2, r3, r4, r5, r6, r7, r8, r9⟩ := (show Has _ _ (ceL AR qi) from A11.out.bl (ki, ceL AR qi) (by simp)).ten
  go_wp2_with (go_at_call 21; refine (num_any _ _).mono ?_; rintro e w0 ⟨rfl, hw0⟩; have hw1 := hw0.symm; clear hw0; subst hw1)
  refine (sameCell_lens AR qg qi _ (A11.out.crow _ _ (fun r hr => by simp at hr ⊢; rcases hr with rfl | rfl | rfl <;> simp)) (A11.out.crow _ _ (fun r hr => by simp at hr ⊢; rcases hr with rfl | rfl | rfl <;> simp)) LR.out).mono ?_
  rintro e w12 ⟨rfl, b12⟩
  have A12 : Hid (Al h w k1 u [(kz, [.int .i64 ad1, .int .i64 ad2]), (ky, [.int .i64 ad1, .int .i64 ad2]), (kr, ceL AK qr), (ko, ceL AK qo), (ki, ceL AR qi), (kg, ceL AR qg), (kb, ceL AI qb), (ka, ceL AI qa), (k1, ceL c x), (h, ceL c p), (h + 1, [.int .i64 en, .int .i64 es, .int .i64 et, .string ev, .bool eg]), (h + 2, [.int .i64 d1, .int .i64 d2])] [(vp, flatT XV), (vo, flatT XV), (qr.eo, flatE AK.ents), (qr.lo, flatL AK.elems), (qr.so, flatI AK.seen), (qo.eo, flatE AK.ents), (qo.lo, flatL AK.elems), (qo.so, flatI AK.seen), (qi.eo, flatE AR.ents), (qi.lo, flatL AR.elems), (qi.so, flatI AR.seen), (qg.eo, flatE AR.ents), (qg.lo, flatL AR.elems), (qg.so, flatI AR.seen), (qb.eo, flatE AI.ents), (qb.lo, flatL AI.elems), (qb.so, flatI AI.seen), (qa.eo, flatE AI.ents), (qa.lo, flatL AI.elems), (qa.so, flatI AI.seen)] [⟨ki + 1, ko, qo.eo, AK.ents.length, 3, 1⟩, ⟨ki + 1, ko, qo.lo, AK.elems.length, 5, 2⟩, ⟨ki + 1, ko, qo.so, AK.seen.length, 1, 0⟩, ⟨kb + 1, kg, qg.eo, AR.ents.length, 3, 1⟩, ⟨kb + 1, kg, qg.lo, AR.elems.length, 5, 2⟩, ⟨kb + 1, kg, qg.so, AR.seen.length, 1, 0⟩, ⟨k1 + 1, ka, qa.eo, AI.ents.length, 3, 1⟩, ⟨k1 + 1, ka, qa.lo, AI.elems.length, 5, 2⟩, ⟨k1 + 1, ka, qa.so, AI.seen.length, 1, 0⟩] w12) := A11.out.later b12
  clear A11 b12 t0 t1 t2 t3 t4 t5 t6 t7 t8 t9 r0 r1 r2 r3 r4 r5 r6 r7 r8 r9
  obtain ⟨t0, t1, t2, t3, t4, t5, t6, t7, t8, t9⟩ := (show Has _ _ (ceL AK qo) from A12.out.bl (ko, ceL AK qo) (by simp)).ten
  obtain ⟨r0, r1, r2, r3, r4, r5, r6, r7, r8, r9⟩ := (show Has _ _ (ceL AK qr) from A12.out.bl (kr, ceL AK qr) (by simp)).ten
  go_wp2_with (go_at_call 21; refine (num_any _ _).mono ?_; rintro e w0 ⟨rfl, hw0⟩; have hw1 := hw0.symm; clear hw0; subst hw1)
  refine (sameCell_lens AK qo qr _ (A12.out.crow _ _ (fun r hr => by simp at hr ⊢; rcases hr with rfl | rfl | rfl <;> simp)) (A12.out.crow _ _ (fun r hr => by simp at hr ⊢; rcases hr with rfl | rfl | rfl <;> simp)) LK.out).mono ?_
  rintro e w13 ⟨rfl, b13⟩
  have A13 : Hid (Al h w k1 u [(kz, [.int .i64 ad1, .int .i64 ad2]), (ky, [.int .i64 ad1, .int .i64 ad2]), (kr, ceL AK qr), (ko, ceL AK qo), (ki, ceL AR qi), (kg, ceL AR qg), (kb, ceL AI qb), (ka, ceL AI qa), (k1, ceL c x), (h, ceL c p), (h + 1, [.int .i64 en, .int .i64 es, .int .i64 et, .string ev, .bool eg]), (h + 2, [.int .i64 d1, .int .i64 d2])] [(vp, flatT XV), (vo, flatT XV), (qr.eo, flatE AK.ents), (qr.lo, flatL AK.elems), (qr.so, flatI AK.seen), (qo.eo, flatE AK.ents), (qo.lo, flatL AK.elems), (qo.so, flatI AK.seen), (qi.eo, flatE AR.ents), (qi.lo, flatL AR.elems), (qi.so, flatI AR.seen), (qg.eo, flatE AR.ents), (qg.lo, flatL AR.elems), (qg.so, flatI AR.seen), (qb.eo, flatE AI.ents), (qb.lo, flatL AI.elems), (qb.so, flatI AI.seen), (qa.eo, flatE AI.ents), (qa.lo, flatL AI.elems), (qa.so, flatI AI.seen)] [⟨ki + 1, ko, qo.eo, AK.ents.length, 3, 1⟩, ⟨ki + 1, ko, qo.lo, AK.elems.length, 5, 2⟩, ⟨ki + 1, ko, qo.so, AK.seen.length, 1, 0⟩, ⟨kb + 1, kg, qg.eo, AR.ents.length, 3, 1⟩, ⟨kb + 1, kg, qg.lo, AR.elems.length, 5, 2⟩, ⟨kb + 1, kg, qg.so, AR.seen.length, 1, 0⟩, ⟨k1 + 1, ka, qa.eo, AI.ents.length, 3, 1⟩, ⟨k1 + 1, ka, qa.lo, AI.elems.length, 5, 2⟩, ⟨k1 + 1, ka, qa.so, AI.seen.length, 1, 0⟩] w13) := A12.out.later b13
  clear A12 b13 t0 t1 t2 t3 t4 t5 t6 t7 t8 t9 r0 r1 r2 r3 r4 r5 r6 r7 r8 r9
  go_wp2_with (go_at_call 21; refine (num_any _ _).mono ?_; rintro e w0 ⟨rfl, hw0⟩; have hw1 := hw0.symm; clear hw0; subst hw1)
  refine (tsameT_any vo vp cv cw XV _ (A13.out.rw (vo, flatT XV) (by simp)) (A13.out.rw (vp, flatT XV) (by simp)) LX.out).mono ?_
  rintro e w14 ⟨rfl, b14⟩
  have A14 : Hid (Al h w k1 u [(kz, [.int .i64 ad1, .int .i64 ad2]), (ky, [.int .i64 ad1, .int .i64 ad2]), (kr, ceL AK qr), (ko, ceL AK qo), (ki, ceL AR qi), (kg, ceL AR qg), (kb, ceL AI qb), (ka, ceL AI qa), (k1, ceL c x), (h, ceL c p), (h + 1, [.int .i64 en, .int .i64 es, .int .i64 et, .string ev, .bool eg]), (h + 2, [.int .i64 d1, .int .i64 d2])] [(vp, flatT XV), (vo, flatT XV), (qr.eo, flatE AK.ents), (qr.lo, flatL AK.elems), (qr.so, flatI AK.seen), (qo.eo, flatE AK.ents), (qo.lo, flatL AK.elems), (qo.so, flatI AK.seen), (qi.eo, flatE AR.ents), (qi.lo, flatL AR.elems), (qi.so, flatI AR.seen), (qg.eo, flatE AR.ents), (qg.lo, flatL AR.elems), (qg.so, flatI AR.seen), (qb.eo, flatE AI.ents), (qb.lo, flatL AI.elems), (qb.so, flatI AI.seen), (qa.eo, flatE AI.ents), (qa.lo, flatL AI.elems), (qa.so, flatI AI.seen)] [⟨ki + 1, ko, qo.eo, AK.ents.length, 3, 1⟩, ⟨ki + 1, ko, qo.lo, AK.elems.length, 5, 2⟩, ⟨ki + 1, ko, qo.so, AK.seen.length, 1, 0⟩, ⟨kb + 1, kg, qg.eo, AR.ents.length, 3, 1⟩, ⟨kb + 1, kg, qg.lo, AR.elems.length, 5, 2⟩, ⟨kb + 1, kg, qg.so, AR.seen.length, 1, 0⟩, ⟨k1 + 1, ka, qa.eo, AI.ents.length, 3, 1⟩, ⟨k1 + 1, ka, qa.lo, AI.elems.length, 5, 2⟩, ⟨k1 + 1, ka, qa.so, AI.seen.length, 1, 0⟩] w14) := A13.out.later b14
  clear A13 b14
  have i0 := (A14.out.bl (ky, [.int .i64 ad1, .int .i64 ad2]) (by simp)).at 0 rfl
  have i1 := (A14.out.bl (ky, [.int .i64 ad1, .int .i64 ad2]) (by simp)).at 1 rfl
  have j0 := (A14.out.bl (kz, [.int .i64 ad1, .int .i64 ad2]) (by simp)).at 0 rfl
  have j1 := (A14.out.bl (kz, [.int .i64 ad1, .int .i64 ad2]) (by simp)).at 1 rfl
  obtain ⟨t0, t1, t2, t3, t4, t5, t6, t7, t8, t9⟩ := (show Has _ _ (ceL AI qa) from A14.out.bl (ka, ceL AI qa) (by simp)).ten
  go_wp2_with (go_at_call 21; refine (num_any _ _).mono ?_; rintro e w0 ⟨rfl, hw0⟩; have hw1 := hw0.symm; clear hw0; subst hw1)
  have s14 : ka < w14.heap.size := (A14.out.bl (ka, ceL AI qa) (by simp)).1
  refine (spoilCellM (k1 + 1) ka AI qa _ (A14.out.cnums _ _ _ _ (fun r hr => by simp at hr ⊢; rcases hr with rfl | rfl | rfl <;> simp)) (by omega) LI.out).mono ?_
  rintro e w15 ⟨rfl, m15⟩
  have A15 : Hid (Al h w k1 u [(ko, ceL AK qo), (kg, ceL AR qg), (k1, ceL c x), (h, ceL c p), (h + 1, [.int .i64 en, .int .i64 es, .int .i64 et, .string ev, .bool eg]), (h + 2, [.int .i64 d1, .int .i64 d2])] [] [⟨ki + 1, ko, qo.eo, AK.ents.length, 3, 1⟩, ⟨ki + 1, ko, qo.lo, AK.elems.length, 5, 2⟩, ⟨ki + 1, ko, qo.so, AK.seen.length, 1, 0⟩, ⟨kb + 1, kg, qg.eo, AR.ents.length, 3, 1⟩, ⟨kb + 1, kg, qg.lo, AR.elems.length, 5, 2⟩, ⟨kb + 1, kg, qg.so, AR.seen.length, 1, 0⟩] w15) := A14.out.mid m15 (by omega) (by omega) (by omega) _ (fun e he => by
    simp only [List.mem_cons, List.not_mem_nil, or_false] at he
    rcases he with rfl | rfl | rfl | rfl | rfl | rfl
    · exact ⟨by simp, Or.inr (by show ka ≤ ko; omega)⟩
    · exact ⟨by simp, Or.inr (by show ka ≤ kg; omega)⟩
    · exact ⟨by simp, Or.inl (by show k1 < k1 + 1; omega)⟩
    · exact ⟨by simp, Or.inl (by show h < k1 + 1; omega)⟩
    · exact ⟨by simp, Or.inl (by show h + 1 < k1 + 1; omega)⟩
    · exact ⟨by simp, Or.inl (by show h + 2 < k1 + 1; omega)⟩) _ (fun e he => by
    simp only [List.mem_cons, List.not_mem_nil, or_false] at he
    rcases he with rfl | rfl | rfl | rfl | rfl | rfl
    · exact ⟨by simp, by show ka ≤ ki + 1; omega⟩
    · exact ⟨by simp, by show ka ≤ ki + 1; omega⟩
    · exact ⟨by simp, by show ka ≤ ki + 1; omega⟩
    · exact ⟨by simp, by show ka ≤ kb + 1; omega⟩
    · exact ⟨by simp, by show ka ≤ kb + 1; omega⟩
    · exact ⟨by simp, by show ka ≤ kb + 1; omega⟩)
  clear A14 m15 s14 t0 t1 t2 t3 t4 t5 t6 t7 t8 t9 i0 i1 j0 j1
  obtain ⟨t0, t1, t2, t3, t4, t5, t6, t7, t8, t9⟩ := (show Has _ _ (ceL AR qg) from A15.out.bl (kg, ceL AR qg) (by simp)).ten
  first | go_end0 | skip
  go_wp2_with fail
  have s15 : kg < w15.heap.size := (A15.out.bl (kg, ceL AR qg) (by simp)).1
  refine (spoilCellM (kb + 1) kg AR qg _ (A15.out.cnums _ _ _ _ (fun r hr => by simp at hr ⊢; rcases hr with rfl | rfl | rfl <;> simp)) (by omega) LR.out).mono ?_
  rintro e w16 ⟨rfl, m16⟩
  have A16 : Hid (Al h w k1 u [(ko, ceL AK qo), (k1, ceL c x), (h, ceL c p), (h + 1, [.int .i64 en, .int .i64 es, .int .i64 et, .string ev, .bool eg]), (h + 2, [.int .i64 d1, .int .i64 d2])] [] [⟨ki + 1, ko, qo.eo, AK.ents.length, 3, 1⟩, ⟨ki + 1, ko, qo.lo, AK.elems.length, 5, 2⟩, ⟨ki + 1, ko, qo.so, AK.seen.length, 1, 0⟩] w16) := A15.out.mid m16 (by omega) (by omega) (by omega) _ (fun e he => by
    simp only [List.mem_cons, List.not_mem_nil, or_false] at he
    rcases he with rfl | rfl | rfl | rfl | rfl
    · exact ⟨by simp, Or.inr (by show kg ≤ ko; omega)⟩
    · exact ⟨by simp, Or.inl (by show k1 < kb + 1; omega)⟩
    · exact ⟨by simp, Or.inl (by show h < kb + 1; omega)⟩
    · exact ⟨by simp, Or.inl (by show h + 1 < kb + 1; omega)⟩
    · exact ⟨by simp, Or.inl (by show h + 2 < kb + 1; omega)⟩) _ (fun e he => by
    simp only [List.mem_cons, List.not_mem_nil, or_false] at he
    rcases he with rfl | rfl | rfl
    · exact ⟨by simp, by show kg ≤ ki + 1; omega⟩
    · exact ⟨by simp, by show kg ≤ ki + 1; omega⟩
    · exact ⟨by simp, by show kg ≤ ki + 1; omega⟩)
  clear A15 m16 s15 t0 t1 t2 t3 t4 t5 t6 t7 t8 t9
  obtain ⟨t0, t1, t2, t3, t4, t5, t6, t7, t8, t9⟩ := (show Has _ _ (ceL AK qo) from A16.out.bl (ko, ceL AK qo) (by simp)).ten
  first | go_end0 | skip
  go_wp2_with fail
  have s16 : ko < w16.heap.size := (A16.out.bl (ko, ceL AK qo) (by simp)).1
  refine (spoilCellM (ki + 1) ko AK qo _ (A16.out.cnums _ _ _ _ (fun r hr => by simp at hr ⊢; rcases hr with rfl | rfl | rfl <;> simp)) (by omega) LK.out).mono ?_
  rintro e w17 ⟨rfl, m17⟩
  have A17 : Hid (Al h w k1 u [(k1, ceL c x), (h, ceL c p), (h + 1, [.int .i64 en, .int .i64 es, .int .i64 et, .string ev, .bool eg]), (h + 2, [.int .i64 d1, .int .i64 d2])] [] [] w17) := A16.out.mid m17 (by omega) (by omega) (by omega) _ (fun e he => by
    simp only [List.mem_cons, List.not_mem_nil, or_false] at he
    rcases he with rfl | rfl | rfl | rfl
    · exact ⟨by simp, Or.inl (by show k1 < ki + 1; omega)⟩
    · exact ⟨by simp, Or.inl (by show h < ki + 1; omega)⟩
    · exact ⟨by simp, Or.inl (by show h + 1 < ki + 1; omega)⟩
    · exact ⟨by simp, Or.inl (by show h + 2 < ki + 1; omega)⟩) _ (fun e he => by
    simp at he)
  clear A16 m17 s16 t0 t1 t2 t3 t4 t5 t6 t7 t8 t9
  obtain ⟨t0, t1, t2, t3, t4, t5, t6, t7, t8, t9⟩ := (show Has _ _ (ceL c x) from A17.out.bl (k1, ceL c x) (by simp)).ten
  obtain ⟨r0, r1, r2, r3, r4, r5, r6, r7, r8, r9⟩ := (show Has _ _ (ceL c p) from A17.out.bl (h, ceL c p) (by simp)).ten
  first | go_end0 | skip
  go_wp2_with fail
  refine (sameCell_any c x p _ (HU.out.2.1.later (HU.out.2.2.symm ▸ A17.out.b1)) (HU.out.1.later (HU.out.2.2.symm ▸ A17.out.b1)) HR.out.2.1).mono ?_
  rintro e w18 ⟨rfl, b18⟩
  have A18 : Hid (Al h w k1 u [(k1, ceL c x), (h, ceL c p), (h + 1, [.int .i64 en, .int .i64 es, .int .i64 et, .string ev, .bool eg]), (h + 2, [.int .i64 d1, .int .i64 d2])] [] [] w18) := A17.out.later b18
  clear A17 b18 t0 t1 t2 t3 t4 t5 t6 t7 t8 t9 r0 r1 r2 r3 r4 r5 r6 r7 r8 r9
  go_wp2_with fail
  refine (awake10_any _).mono ?_
  rintro e w19 ⟨rfl, b19⟩
  have A19 : Hid (Al h w k1 u [(k1, ceL c x), (h, ceL c p), (h + 1, [.int .i64 en, .int .i64 es, .int .i64 et, .string ev, .bool eg]), (h + 2, [.int .i64 d1, .int .i64 d2])] [] [] w19) := A18.out.later b19
  clear A18 b19
  go_wp2
  go_ret
  exact ⟨rfl, A19.out.b0⟩

set_option maxRecDepth 100000 in
theorem walk {H : Type} {enc : TypeId × Value → H} {base : Nat} {d0 d1 d2 : DataW H} {p0 p1 p2 : List MemPlace} (v0 v1 v2 : Value) (k : Int) (w : World)
    (o0 : Value.okWide Try.prog w .any base 30 v0) (h0 : DataW.Trod enc Try.prog w 0 (fun _ => true) true 30 v0 d0 p0) (z0 : ∀ n, n ∈ DataW.weights Try.prog 30 d0 → n ≤ reachBytes)
    (o1 : Value.okWide Try.prog w .any base 34 v1) (h1 : DataW.Trod enc Try.prog w 0 (fun _ => true) true 34 v1 d1 p1) (z1 : ∀ n, n ∈ DataW.weights Try.prog 34 d1 → n ≤ reachBytes)
    (o2 : Value.okWide Try.prog w .any base 32 v2) (h2 : DataW.Trod enc Try.prog w 0 (fun _ => true) true 32 v2 d2 p2) (z2 : ∀ n, n ∈ DataW.weights Try.prog 32 d2 → n ≤ reachBytes)
    (_ : (Lit.int .i64 k).wf = true) :
    Calls Try.prog 3 #[v0, v1, v2, .int .i64 k] w fun e w' => e = .returned (.bool true) ∧ Below w.heap.size w w' := by
  obtain ⟨c, q, rfl, _, hc, hr, hf⟩ := open_cellD o0 h0 z0
  obtain ⟨e, rfl, he⟩ := open_elem o1 h1 z1
  obtain ⟨t, n, rfl, _, _⟩ := open_two Try.underlying32 (by kernel_rfl) rfl rfl (by kernel_rfl) (by kernel_rfl) Try.underlying3 Try.underlying3 o2 h2
  exact core c q e (t, n) k w hr hf hc (by unfold maxLen; omega)

end Go.Proofs.Ytaakhpibdpgjpaa.Rgas
