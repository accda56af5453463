/-
  The walk of the law Orsets, at whatever comes as its arguments.
-/
import Derived.Test.YtedgobdeoheaoaaAl9
namespace Go.Proofs.Ytedgobdeoheaoaa.Orsets
open Go.RowKit Go.Shelf
set_option linter.unusedVariables false
set_option linter.unusedSimpArgs false

theorem lens_put {c : Ce} (hf : Fit c) (d : D2) (v : ByteArray) : Lens (ansP c d v) := by
  obtain ⟨f1, f2, f3, _⟩ := hf
  unfold ansP
  split
  · refine ⟨?_, by show c.elems.length ≤ _; omega, by show c.seen.length ≤ _; omega⟩
    show (putL c.ents d v).length ≤ _
    unfold putL
    rw [insE_len _ _ _ (place_le _ _)]
    omega
  · exact ⟨by simp [ce0], by simp [ce0], by simp [ce0]⟩
theorem lens_drop {c : Ce} (hf : Fit c) (ds : List D2) : Lens (ansQ c ds) := by
  obtain ⟨f1, f2, f3, _⟩ := hf
  unfold ansQ
  split
  · refine ⟨?_, by show c.elems.length ≤ _; omega, by show c.seen.length ≤ _; omega⟩
    show (dropL c.ents ds).length ≤ _
    have := List.length_filter_le (fun x => !decide (dotE x ∈ ds)) c.ents
    have h2 : (dropL c.ents ds).length ≤ c.ents.length := by unfold dropL; exact List.length_filter_le _ _
    omega
  · exact ⟨by simp [ce0], by simp [ce0], by simp [ce0]⟩
theorem len_vals {c : Ce} (hf : Fit c) : (ansV c).length ≤ maxLen := by
  have f1 := hf.1
  unfold ansV maxLen
  split
  · have := setV_le (valsL c.ents)
    rw [valsL_len] at this
    omega
  · simp
theorem len_dots {c : Ce} (hf : Fit c) (v : ByteArray) : (ansD c v).length ≤ maxLen := by
  have f1 := hf.1
  unfold ansD maxLen
  split
  · have := dotsL_le c.ents v
    omega
  · simp

set_option maxHeartbeats 4000000 in
set_option maxRecDepth 100000 in
theorem core (c : Ce) (p : Pl) (d : D2) (ao : Option Addr) (ca : Nat) (ds : List D2) (v : ByteArray) (w : World) (hr : CRow w c p) (hf : Fit c) (hcap : c.ents.length ≤ p.ec) (hd : FRow w ao (flatD ds)) (hds : ds.length * 16 ≤ 140737488351232) (hv : v.size ≤ maxLen) :
    Calls Try.prog 3 #[ceV c p, dv d, .slice ao ds.length ca, .string v] w fun e w' => e = .returned (.bool true) ∧ Below w.heap.size w w' := by
  obtain ⟨d1, d2⟩ := d
  have H0 : Hid (L2 w w.heap.size c p d1 d2 ((w.alloc (.cells (ceL c p).toArray 30)).alloc (.cells #[.int .i64 d1, .int .i64 d2] 32))) := l2_new _ _ _ _ _ _ _
  obtain ⟨h, hh⟩ : ∃ h, w.heap.size = h := ⟨_, rfl⟩
  rw [hh] at H0 ⊢
  have HR : Hid (CRow w c p ∧ Fit c ∧ c.ents.length ≤ p.ec ∧ FRow w ao (flatD ds) ∧ ds.length * 16 ≤ 140737488351232 ∧ v.size ≤ maxLen ∧ w.heap.size = h) := ⟨hr, hf, hcap, hd, hds, hv, hh⟩
  clear hr hf hcap hd hds hv
  go_enter Try.func3, Try.ntmps3
  go_wp2_with fail
  refine (copyCell_any c p _ (HR.out.1.later (hh.symm ▸ H0.out.1)) HR.out.2.1).mono ?_
  rintro e w1 ⟨x, rfl, o1, b1⟩
  have H1 : Hid (L2 w h c p d1 d2 w1 ∧ CRow w1 c x) := ⟨H0.out.later b1, o1.row⟩
  clear H0 o1 b1
  go_wp2_with fail
  refine (dlend_any ao ca ds w1 (HR.out.2.2.2.1.later (HR.out.2.2.2.2.2.2.symm ▸ H1.out.1.1)) HR.out.2.2.2.2.1).mono ?_
  rintro e u ⟨g, cy, rfl, ry, hcy, hg, b1⟩
  obtain ⟨k1, hk1⟩ : ∃ k, u.heap.size = k := ⟨_, rfl⟩
  have hu := (H1.out.1.later b1).size
  have A1 : Hid (Al h w k1 u [(k1, ceL c x), (h, ceL c p), (h + 1, [.int .i64 d1, .int .i64 d2])] [] [] (u.alloc (.cells (ceL c x).toArray 30))) := by
    have K := H1.out.1.later b1
    refine Al.push ⟨K.1, Below.refl _ _, by omega, by omega, fun e he => ?_, fun r hr => by simp at hr, fun t ht => by simp at ht⟩ hk1 _ _
    simp only [List.mem_cons, List.not_mem_nil, or_false] at he
    rcases he with rfl | rfl
    · exact K.2.1
    · exact K.2.2
  have HU : Hid (CRow u c p ∧ CRow u c x ∧ FRow u (some ⟨g, 0, none⟩) (flatD (ds ++ [(0, 77777), (0, 77777)])) ∧ FRow u ao (flatD ds) ∧ ds.length + 2 ≤ cy ∧ h + 1 < k1 ∧ u.heap.size = k1) := ⟨HR.out.1.later (HR.out.2.2.2.2.2.2.symm ▸ (H1.out.1.later b1).1), H1.out.2.later b1, ry, HR.out.2.2.2.1.later (HR.out.2.2.2.2.2.2.symm ▸ (H1.out.1.later b1).1), hcy, by omega, hk1⟩
  have y0 := (H1.out.1.later b1).2.2.at 0 rfl
  have y1 := (H1.out.1.later b1).2.2.at 1 rfl
  have l1 : h + 1 < k1 := HU.out.2.2.2.2.2.1
  clear H1 b1 ry hcy hg hu hh
  go_wp2_with fail
  refine (put_all c x (d1, d2) v _ (HU.out.2.1.later ((Below.refl _ _).alloc (Nat.le_refl _) _)) HR.out.2.1 HR.out.2.2.2.2.2.1).mono ?_
  rintro e w3 ⟨a, rfl, o3, b3⟩
  obtain ⟨ka, hka⟩ : ∃ k, w3.heap.size = k := ⟨_, rfl⟩
  have C3 : Hid (Al h w k1 u [(k1, ceL c x), (h, ceL c p), (h + 1, [.int .i64 d1, .int .i64 d2])] (rows3 (ansP c (d1, d2) v) a ++ []) (nums3 (k1 + 1) ka (ansP c (d1, d2) v) a ++ []) w3) := ((A1.out.later b3).cell o3.row).nums hka (o3.mono (by simp [hk1]))
  have la : k1 < ka := by have := b3.size; simp at this; omega
  have la2 : h < ka := by omega
  have la3 : h + 1 < ka := by omega
  have A3 : Hid (Al h w k1 u [(ka, ceL (ansP c (d1, d2) v) a), (k1, ceL c x), (h, ceL c p), (h + 1, [.int .i64 d1, .int .i64 d2])] (rows3 (ansP c (d1, d2) v) a ++ []) (nums3 (k1 + 1) ka (ansP c (d1, d2) v) a ++ []) (w3.alloc (.cells (ceL (ansP c (d1, d2) v) a).toArray 30))) := C3.out.push hka _ _
  clear A1 o3 b3 y0 y1 hk1
  obtain ⟨t0, t1, t2, t3, t4, t5, t6, t7, t8, t9⟩ := (show Has _ _ (ceL c p) from C3.out.bl (h, ceL c p) (by simp)).ten
  have y0 := (C3.out.bl (h + 1, [.int .i64 d1, .int .i64 d2]) (by simp)).at 0 rfl
  have y1 := (C3.out.bl (h + 1, [.int .i64 d1, .int .i64 d2]) (by simp)).at 1 rfl
  go_wp2_with fail
  refine (rput_all c p (d1, d2) v _ (HU.out.1.later (HU.out.2.2.2.2.2.2.symm ▸ A3.out.b1)) HR.out.2.1 HR.out.2.2.1 HR.out.2.2.2.2.2.1).mono ?_
  rintro e w4 ⟨b, rfl, o4, b4⟩
  obtain ⟨kb, hkb⟩ : ∃ k, w4.heap.size = k := ⟨_, rfl⟩
  have C4 : Hid (Al h w k1 u [(ka, ceL (ansP c (d1, d2) v) a), (k1, ceL c x), (h, ceL c p), (h + 1, [.int .i64 d1, .int .i64 d2])] (rows3 (ansP c (d1, d2) v) b ++ (rows3 (ansP c (d1, d2) v) a ++ [])) (nums3 (k1 + 1) ka (ansP c (d1, d2) v) a ++ []) w4) := (A3.out.later b4).cell o4.row
  have lb : ka < kb := by have := b4.size; simp at this; omega
  have lb2 : k1 < kb := by omega
  have A4 : Hid (Al h w k1 u [(kb, ceL (ansP c (d1, d2) v) b), (ka, ceL (ansP c (d1, d2) v) a), (k1, ceL c x), (h, ceL c p), (h + 1, [.int .i64 d1, .int .i64 d2])] (rows3 (ansP c (d1, d2) v) b ++ (rows3 (ansP c (d1, d2) v) a ++ [])) (nums3 (k1 + 1) ka (ansP c (d1, d2) v) a ++ []) (w4.alloc (.cells (ceL (ansP c (d1, d2) v) b).toArray 30))) := C4.out.push hkb _ _
  clear A3 C3 o4 b4 y0 y1 hka t0 t1 t2 t3 t4 t5 t6 t7 t8 t9
  obtain ⟨t0, t1, t2, t3, t4, t5, t6, t7, t8, t9⟩ := (show Has _ _ (ceL c x) from C4.out.bl (k1, ceL c x) (by simp)).ten
  go_wp2_with fail
  refine (drop_all c x (some ⟨g, 0, none⟩) cy ds _ (HU.out.2.1.later (HU.out.2.2.2.2.2.2.symm ▸ A4.out.b1)) HR.out.2.1 ((frow_headD HU.out.2.2.1).later (HU.out.2.2.2.2.2.2.symm ▸ A4.out.b1)) (by have := HR.out.2.2.2.2.1; omega)).mono ?_
  rintro e w5 ⟨gq, rfl, o5, b5⟩
  obtain ⟨kg, hkg⟩ : ∃ k, w5.heap.size = k := ⟨_, rfl⟩
  have C5 : Hid (Al h w k1 u [(kb, ceL (ansP c (d1, d2) v) b), (ka, ceL (ansP c (d1, d2) v) a), (k1, ceL c x), (h, ceL c p), (h + 1, [.int .i64 d1, .int .i64 d2])] (rows3 (ansQ c ds) gq ++ (rows3 (ansP c (d1, d2) v) b ++ (rows3 (ansP c (d1, d2) v) a ++ []))) (nums3 (kb + 1) kg (ansQ c ds) gq ++ (nums3 (k1 + 1) ka (ansP c (d1, d2) v) a ++ [])) w5) := ((A4.out.later b5).cell o5.row).nums hkg (o5.mono (by simp [hkb]))
  have lg : kb < kg := by have := b5.size; simp at this; omega
  have lg2 : h < kg := by omega
  have A5 : Hid (Al h w k1 u [(kg, ceL (ansQ c ds) gq), (kb, ceL (ansP c (d1, d2) v) b), (ka, ceL (ansP c (d1, d2) v) a), (k1, ceL c x), (h, ceL c p), (h + 1, [.int .i64 d1, .int .i64 d2])] (rows3 (ansQ c ds) gq ++ (rows3 (ansP c (d1, d2) v) b ++ (rows3 (ansP c (d1, d2) v) a ++ []))) (nums3 (kb + 1) kg (ansQ c ds) gq ++ (nums3 (k1 + 1) ka (ansP c (d1, d2) v) a ++ [])) (w5.alloc (.cells (ceL (ansQ c ds) gq).toArray 30))) := C5.out.push hkg _ _
  clear A4 C4 o5 b5 hkb t0 t1 t2 t3 t4 t5 t6 t7 t8 t9
  obtain ⟨t0, t1, t2, t3, t4, t5, t6, t7, t8, t9⟩ := (show Has _ _ (ceL c p) from C5.out.bl (h, ceL c p) (by simp)).ten
  go_wp2_with fail
  refine (rdrop_all c p ao ca ds _ (HU.out.1.later (HU.out.2.2.2.2.2.2.symm ▸ A5.out.b1)) HR.out.2.1 (HU.out.2.2.2.1.later (HU.out.2.2.2.2.2.2.symm ▸ A5.out.b1)) (by have := HR.out.2.2.2.2.1; omega)).mono ?_
  rintro e w6 ⟨iq, rfl, o6, b6⟩
  obtain ⟨ki, hki⟩ : ∃ k, w6.heap.size = k := ⟨_, rfl⟩
  have C6 : Hid (Al h w k1 u [(kg, ceL (ansQ c ds) gq), (kb, ceL (ansP c (d1, d2) v) b), (ka, ceL (ansP c (d1, d2) v) a), (k1, ceL c x), (h, ceL c p), (h + 1, [.int .i64 d1, .int .i64 d2])] (rows3 (ansQ c ds) iq ++ (rows3 (ansQ c ds) gq ++ (rows3 (ansP c (d1, d2) v) b ++ (rows3 (ansP c (d1, d2) v) a ++ [])))) (nums3 (kb + 1) kg (ansQ c ds) gq ++ (nums3 (k1 + 1) ka (ansP c (d1, d2) v) a ++ [])) w6) := (A5.out.later b6).cell o6.row
  have li : kg < ki := by have := b6.size; simp at this; omega
  have li2 : k1 < ki := by omega
  have A6 : Hid (Al h w k1 u [(ki, ceL (ansQ c ds) iq), (kg, ceL (ansQ c ds) gq), (kb, ceL (ansP c (d1, d2) v) b), (ka, ceL (ansP c (d1, d2) v) a), (k1, ceL c x), (h, ceL c p), (h + 1, [.int .i64 d1, .int .i64 d2])] (rows3 (ansQ c ds) iq ++ (rows3 (ansQ c ds) gq ++ (rows3 (ansP c (d1, d2) v) b ++ (rows3 (ansP c (d1, d2) v) a ++ [])))) (nums3 (kb + 1) kg (ansQ c ds) gq ++ (nums3 (k1 + 1) ka (ansP c (d1, d2) v) a ++ [])) (w6.alloc (.cells (ceL (ansQ c ds) iq).toArray 30))) := C6.out.push hki _ _
  clear A5 C5 o6 b6 hkg t0 t1 t2 t3 t4 t5 t6 t7 t8 t9
  obtain ⟨t0, t1, t2, t3, t4, t5, t6, t7, t8, t9⟩ := (show Has _ _ (ceL c x) from C6.out.bl (k1, ceL c x) (by simp)).ten
  go_wp2_with fail
  refine (vals_all c x _ (HU.out.2.1.later (HU.out.2.2.2.2.2.2.symm ▸ A6.out.b1)) HR.out.2.1).mono ?_
  rintro e w7 ⟨vo, cv, rfl, o7, b7⟩
  have A7 : Hid (Al h w k1 u [(ki, ceL (ansQ c ds) iq), (kg, ceL (ansQ c ds) gq), (kb, ceL (ansP c (d1, d2) v) b), (ka, ceL (ansP c (d1, d2) v) a), (k1, ceL c x), (h, ceL c p), (h + 1, [.int .i64 d1, .int .i64 d2])] ((vo, flatS (ansV c)) :: (rows3 (ansQ c ds) iq ++ (rows3 (ansQ c ds) gq ++ (rows3 (ansP c (d1, d2) v) b ++ (rows3 (ansP c (d1, d2) v) a ++ []))))) (nums3 (kb + 1) kg (ansQ c ds) gq ++ (nums3 (k1 + 1) ka (ansP c (d1, d2) v) a ++ [])) w7) := (A6.out.later b7).row o7.row
  clear A6 C6 o7 b7 hki t0 t1 t2 t3 t4 t5 t6 t7 t8 t9
  obtain ⟨t0, t1, t2, t3, t4, t5, t6, t7, t8, t9⟩ := (show Has _ _ (ceL c p) from A7.out.bl (h, ceL c p) (by simp)).ten
  go_wp2_with fail
  refine (rvals_all c p _ (HU.out.1.later (HU.out.2.2.2.2.2.2.symm ▸ A7.out.b1)) HR.out.2.1).mono ?_
  rintro e w8 ⟨vp, cw, rfl, o8, b8⟩
  obtain ⟨k8, hk8⟩ : ∃ k, w8.heap.size = k := ⟨_, rfl⟩
  have A8 : Hid (Al h w k1 u [(ki, ceL (ansQ c ds) iq), (kg, ceL (ansQ c ds) gq), (kb, ceL (ansP c (d1, d2) v) b), (ka, ceL (ansP c (d1, d2) v) a), (k1, ceL c x), (h, ceL c p), (h + 1, [.int .i64 d1, .int .i64 d2])] ((vp, flatS (ansV c)) :: (vo, flatS (ansV c)) :: (rows3 (ansQ c ds) iq ++ (rows3 (ansQ c ds) gq ++ (rows3 (ansP c (d1, d2) v) b ++ (rows3 (ansP c (d1, d2) v) a ++ []))))) (nums3 (kb + 1) kg (ansQ c ds) gq ++ (nums3 (k1 + 1) ka (ansP c (d1, d2) v) a ++ [])) w8) := (A7.out.later b8).row o8.row
  have lk8 : ki < k8 := by have := (A8.out.bl (ki, ceL (ansQ c ds) iq) (by simp)).1; simp at this; omega
  clear A7 o8 b8 t0 t1 t2 t3 t4 t5 t6 t7 t8 t9
  obtain ⟨t0, t1, t2, t3, t4, t5, t6, t7, t8, t9⟩ := (show Has _ _ (ceL c x) from A8.out.bl (k1, ceL c x) (by simp)).ten
  go_wp2_with fail
  refine (dots_all c x v _ (HU.out.2.1.later (HU.out.2.2.2.2.2.2.symm ▸ A8.out.b1)) HR.out.2.1).mono ?_
  rintro e w9 ⟨qo, cq, rfl, o9, b9⟩
  obtain ⟨kq, hkq⟩ : ∃ k, w9.heap.size = k := ⟨_, rfl⟩
  have A9 : Hid (Al h w k1 u [(ki, ceL (ansQ c ds) iq), (kg, ceL (ansQ c ds) gq), (kb, ceL (ansP c (d1, d2) v) b), (ka, ceL (ansP c (d1, d2) v) a), (k1, ceL c x), (h, ceL c p), (h + 1, [.int .i64 d1, .int .i64 d2])] ((qo, flatD (ansD c v)) :: (vp, flatS (ansV c)) :: (vo, flatS (ansV c)) :: (rows3 (ansQ c ds) iq ++ (rows3 (ansQ c ds) gq ++ (rows3 (ansP c (d1, d2) v) b ++ (rows3 (ansP c (d1, d2) v) a ++ []))))) (⟨k8, kq, qo, (ansD c v).length, 2, 1⟩ :: (nums3 (kb + 1) kg (ansQ c ds) gq ++ (nums3 (k1 + 1) ka (ansP c (d1, d2) v) a ++ []))) w9) := ((A8.out.later b9).row o9.row).num (t := ⟨k8, kq, qo, (ansD c v).length, 2, 1⟩) (hkq ▸ nums_dots (hk8 ▸ o9))
  clear A8 o9 b9 t0 t1 t2 t3 t4 t5 t6 t7 t8 t9
  obtain ⟨t0, t1, t2, t3, t4, t5, t6, t7, t8, t9⟩ := (show Has _ _ (ceL c p) from A9.out.bl (h, ceL c p) (by simp)).ten
  go_wp2_with fail
  refine (rdots_all c p v _ (HU.out.1.later (HU.out.2.2.2.2.2.2.symm ▸ A9.out.b1)) HR.out.2.1).mono ?_
  rintro e w10 ⟨so, cs, rfl, o10, b10⟩
  have A10 : Hid (Al h w k1 u [(ki, ceL (ansQ c ds) iq), (kg, ceL (ansQ c ds) gq), (kb, ceL (ansP c (d1, d2) v) b), (ka, ceL (ansP c (d1, d2) v) a), (k1, ceL c x), (h, ceL c p), (h + 1, [.int .i64 d1, .int .i64 d2])] ((so, flatD (ansD c v)) :: (qo, flatD (ansD c v)) :: (vp, flatS (ansV c)) :: (vo, flatS (ansV c)) :: (rows3 (ansQ c ds) iq ++ (rows3 (ansQ c ds) gq ++ (rows3 (ansP c (d1, d2) v) b ++ (rows3 (ansP c (d1, d2) v) a ++ []))))) (⟨k8, kq, qo, (ansD c v).length, 2, 1⟩ :: (nums3 (kb + 1) kg (ansQ c ds) gq ++ (nums3 (k1 + 1) ka (ansP c (d1, d2) v) a ++ []))) w10) := (A9.out.later b10).row o10.row
  clear A9 o10 b10 hk8 hkq t0 t1 t2 t3 t4 t5 t6 t7 t8 t9
  obtain ⟨t0, t1, t2, t3, t4, t5, t6, t7, t8, t9⟩ := (show Has _ _ (ceL (ansP c (d1, d2) v) a) from A10.out.bl (ka, ceL (ansP c (d1, d2) v) a) (by simp)).ten
  obtain ⟨r0, r1, r2, r3, r4, r5, r6, r7, r8, r9⟩ := (show Has _ _ (ceL (ansP c (d1, d2) v) b) from A10.out.bl (kb, ceL (ansP c (d1, d2) v) b) (by simp)).ten
  have hne1 : (numP c (d1, d2) v != numP c (d1, d2) v) = false := by simp
  have hne2 : (numQ c != numQ c) = false := by simp
  go_wp2_with fail
  refine (sameCell_lens (ansP c (d1, d2) v) a b _ (A10.out.crow _ _ (fun r hr => by simp at hr ⊢; rcases hr with rfl | rfl | rfl <;> simp)) (A10.out.crow _ _ (fun r hr => by simp at hr ⊢; rcases hr with rfl | rfl | rfl <;> simp)) (lens_put HR.out.2.1 _ _)).mono ?_
  rintro e w11 ⟨rfl, b11⟩
  have A11 : Hid (Al h w k1 u [(ki, ceL (ansQ c ds) iq), (kg, ceL (ansQ c ds) gq), (kb, ceL (ansP c (d1, d2) v) b), (ka, ceL (ansP c (d1, d2) v) a), (k1, ceL c x), (h, ceL c p), (h + 1, [.int .i64 d1, .int .i64 d2])] ((so, flatD (ansD c v)) :: (qo, flatD (ansD c v)) :: (vp, flatS (ansV c)) :: (vo, flatS (ansV c)) :: (rows3 (ansQ c ds) iq ++ (rows3 (ansQ c ds) gq ++ (rows3 (ansP c (d1, d2) v) b ++ (rows3 (ansP c (d1, d2) v) a ++ []))))) (⟨k8, kq, qo, (ansD c v).length, 2, 1⟩ :: (nums3 (kb + 1) kg (ansQ c ds) gq ++ (nums3 (k1 + 1) ka (ansP c (d1, d2) v) a ++ []))) w11) := A10.out.later b11
  clear A10 b11 t0 t1 t2 t3 t4 t5 t6 t7 t8 t9 r0 r1 r2 r3 r4 r5 r6 r7 r8 r9
  obtain ⟨t0, t1, t2, t3, t4, t5, t6, t7, t8, t9⟩ := (show Has _ _ (ceL (ansQ c ds) gq) from A11.out.bl (kg, ceL (ansQ c ds) gq) (by simp)).ten
  obtain ⟨r0, r1, r2, r3, r4, r5, r6, r7, r8, r9⟩ := (show Has _ _ (ceL (ansQ c ds) iq) from A11.out.bl (ki, ceL (ansQ c ds) iq) (by simp)).ten
  go_wp2_with (go_at_call 19; refine (num_any _ _).mono ?_; rintro e w0 ⟨rfl, hw0⟩; have hw1 := hw0.symm; clear hw0; subst hw1)
  refine (sameCell_lens (ansQ c ds) gq iq _ (A11.out.crow _ _ (fun r hr => by simp at hr ⊢; rcases hr with rfl | rfl | rfl <;> simp)) (A11.out.crow _ _ (fun r hr => by simp at hr ⊢; rcases hr with rfl | rfl | rfl <;> simp)) (lens_drop HR.out.2.1 _)).mono ?_
  rintro e w12 ⟨rfl, b12⟩
  have A12 : Hid (Al h w k1 u [(ki, ceL (ansQ c ds) iq), (kg, ceL (ansQ c ds) gq), (kb, ceL (ansP c (d1, d2) v) b), (ka, ceL (ansP c (d1, d2) v) a), (k1, ceL c x), (h, ceL c p), (h + 1, [.int .i64 d1, .int .i64 d2])] ((so, flatD (ansD c v)) :: (qo, flatD (ansD c v)) :: (vp, flatS (ansV c)) :: (vo, flatS (ansV c)) :: (rows3 (ansQ c ds) iq ++ (rows3 (ansQ c ds) gq ++ (rows3 (ansP c (d1, d2) v) b ++ (rows3 (ansP c (d1, d2) v) a ++ []))))) (⟨k8, kq, qo, (ansD c v).length, 2, 1⟩ :: (nums3 (kb + 1) kg (ansQ c ds) gq ++ (nums3 (k1 + 1) ka (ansP c (d1, d2) v) a ++ []))) w12) := A11.out.later b12
  clear A11 b12 t0 t1 t2 t3 t4 t5 t6 t7 t8 t9 r0 r1 r2 r3 r4 r5 r6 r7 r8 r9
  go_wp2_with (go_at_call 19; refine (num_any _ _).mono ?_; rintro e w0 ⟨rfl, hw0⟩; have hw1 := hw0.symm; clear hw0; subst hw1)
  refine (tsame_any vo vp cv cw (ansV c) _ (A12.out.rw (vo, flatS (ansV c)) (by simp)) (A12.out.rw (vp, flatS (ansV c)) (by simp)) (len_vals HR.out.2.1)).mono ?_
  rintro e w13 ⟨rfl, b13⟩
  have A13 : Hid (Al h w k1 u [(ki, ceL (ansQ c ds) iq), (kg, ceL (ansQ c ds) gq), (kb, ceL (ansP c (d1, d2) v) b), (ka, ceL (ansP c (d1, d2) v) a), (k1, ceL c x), (h, ceL c p), (h + 1, [.int .i64 d1, .int .i64 d2])] ((so, flatD (ansD c v)) :: (qo, flatD (ansD c v)) :: (vp, flatS (ansV c)) :: (vo, flatS (ansV c)) :: (rows3 (ansQ c ds) iq ++ (rows3 (ansQ c ds) gq ++ (rows3 (ansP c (d1, d2) v) b ++ (rows3 (ansP c (d1, d2) v) a ++ []))))) (⟨k8, kq, qo, (ansD c v).length, 2, 1⟩ :: (nums3 (kb + 1) kg (ansQ c ds) gq ++ (nums3 (k1 + 1) ka (ansP c (d1, d2) v) a ++ []))) w13) := A12.out.later b13
  clear A12 b13
  go_wp2_with (go_at_call 19; refine (num_any _ _).mono ?_; rintro e w0 ⟨rfl, hw0⟩; have hw1 := hw0.symm; clear hw0; subst hw1)
  refine (dsame_any qo so cq cs (ansD c v) _ (A13.out.rw (qo, flatD (ansD c v)) (by simp)) (A13.out.rw (so, flatD (ansD c v)) (by simp)) (len_dots HR.out.2.1 _)).mono ?_
  rintro e w14 ⟨rfl, b14⟩
  have A14 : Hid (Al h w k1 u [(ki, ceL (ansQ c ds) iq), (kg, ceL (ansQ c ds) gq), (kb, ceL (ansP c (d1, d2) v) b), (ka, ceL (ansP c (d1, d2) v) a), (k1, ceL c x), (h, ceL c p), (h + 1, [.int .i64 d1, .int .i64 d2])] ((so, flatD (ansD c v)) :: (qo, flatD (ansD c v)) :: (vp, flatS (ansV c)) :: (vo, flatS (ansV c)) :: (rows3 (ansQ c ds) iq ++ (rows3 (ansQ c ds) gq ++ (rows3 (ansP c (d1, d2) v) b ++ (rows3 (ansP c (d1, d2) v) a ++ []))))) (⟨k8, kq, qo, (ansD c v).length, 2, 1⟩ :: (nums3 (kb + 1) kg (ansQ c ds) gq ++ (nums3 (k1 + 1) ka (ansP c (d1, d2) v) a ++ []))) w14) := A13.out.later b14
  clear A13 b14
  obtain ⟨t0, t1, t2, t3, t4, t5, t6, t7, t8, t9⟩ := (show Has _ _ (ceL (ansP c (d1, d2) v) a) from A14.out.bl (ka, ceL (ansP c (d1, d2) v) a) (by simp)).ten
  go_wp2_with (go_at_call 19; refine (num_any _ _).mono ?_; rintro e w0 ⟨rfl, hw0⟩; have hw1 := hw0.symm; clear hw0; subst hw1)
  have s14 : ka < w14.heap.size := (A14.out.bl (ka, ceL (ansP c (d1, d2) v) a) (by simp)).1
  refine (spoilCellM (k1 + 1) ka (ansP c (d1, d2) v) a _ (A14.out.cnums _ _ _ _ (fun r hr => by simp at hr ⊢; rcases hr with rfl | rfl | rfl <;> simp)) (by omega) (lens_put HR.out.2.1 _ _)).mono ?_
  rintro e w15 ⟨rfl, m15⟩
  have A15 : Hid (Al h w k1 u [(kg, ceL (ansQ c ds) gq), (k1, ceL c x), (h, ceL c p), (h + 1, [.int .i64 d1, .int .i64 d2])] [] (⟨k8, kq, qo, (ansD c v).length, 2, 1⟩ :: (nums3 (kb + 1) kg (ansQ c ds) gq)) w15) := A14.out.mid m15 (by omega) (by omega) (by omega) _ (fun e he => by
    simp only [List.mem_cons, List.not_mem_nil, or_false] at he
    rcases he with rfl | rfl | rfl | rfl
    · exact ⟨by simp, Or.inr (by show ka ≤ kg; omega)⟩
    · exact ⟨by simp, Or.inl (by show k1 < k1 + 1; omega)⟩
    · exact ⟨by simp, Or.inl (by show h < k1 + 1; omega)⟩
    · exact ⟨by simp, Or.inl (by show h + 1 < k1 + 1; omega)⟩) _ (fun e he => by
    simp only [List.mem_cons, List.not_mem_nil, or_false] at he
    rcases he with rfl | rfl | rfl | rfl
    · exact ⟨by simp, by show ka ≤ k8; omega⟩
    · exact ⟨by simp, by show ka ≤ kb + 1; omega⟩
    · exact ⟨by simp, by show ka ≤ kb + 1; omega⟩
    · exact ⟨by simp, by show ka ≤ kb + 1; omega⟩)
  clear A14 m15 s14 t0 t1 t2 t3 t4 t5 t6 t7 t8 t9
  obtain ⟨t0, t1, t2, t3, t4, t5, t6, t7, t8, t9⟩ := (show Has _ _ (ceL (ansQ c ds) gq) from A15.out.bl (kg, ceL (ansQ c ds) gq) (by simp)).ten
  first | go_end0 | skip
  go_wp2_with fail
  have s15 : kg < w15.heap.size := (A15.out.bl (kg, ceL (ansQ c ds) gq) (by simp)).1
  refine (spoilCellM (kb + 1) kg (ansQ c ds) gq _ (A15.out.cnums _ _ _ _ (fun r hr => by simp at hr ⊢; rcases hr with rfl | rfl | rfl <;> simp)) (by omega) (lens_drop HR.out.2.1 _)).mono ?_
  rintro e w16 ⟨rfl, m16⟩
  have A16 : Hid (Al h w k1 u [(k1, ceL c x), (h, ceL c p), (h + 1, [.int .i64 d1, .int .i64 d2])] [] [⟨k8, kq, qo, (ansD c v).length, 2, 1⟩] w16) := A15.out.mid m16 (by omega) (by omega) (by omega) _ (fun e he => by
    simp only [List.mem_cons, List.not_mem_nil, or_false] at he
    rcases he with rfl | rfl | rfl
    · exact ⟨by simp, Or.inl (by show k1 < kb + 1; omega)⟩
    · exact ⟨by simp, Or.inl (by show h < kb + 1; omega)⟩
    · exact ⟨by simp, Or.inl (by show h + 1 < kb + 1; omega)⟩) _ (fun e he => by
    simp only [List.mem_cons, List.not_mem_nil, or_false] at he
    subst he
    exact ⟨by simp, by show kg ≤ k8; omega⟩)
  clear A15 m16 s15 t0 t1 t2 t3 t4 t5 t6 t7 t8 t9
  first | go_end0 | skip
  go_wp2_with fail
  refine (spoilDotsM k8 kq qo cq (ansD c v).length _ (A16.out.nu ⟨k8, kq, qo, (ansD c v).length, 2, 1⟩ (by simp)) (len_dots HR.out.2.1 _)).mono ?_
  rintro e w17 ⟨rfl, m17⟩
  have A17 : Hid (Al h w k1 u [(k1, ceL c x), (h, ceL c p), (h + 1, [.int .i64 d1, .int .i64 d2])] [] [] w17) := by
    refine ⟨?_, ?_, Nat.le_trans A16.out.s0 m17.size, Nat.le_trans A16.out.s1 m17.size, fun e he => ?_, fun r hr => by simp at hr, fun t ht => by simp at ht⟩
    · exact A16.out.b0.trans ⟨m17.os, m17.tape, m17.output, m17.size, fun j hj => m17.block j (by have := A16.out.s0; omega) (Or.inl (by omega))⟩
    · exact A16.out.b1.trans ⟨m17.os, m17.tape, m17.output, m17.size, fun j hj => m17.block j (by have := A16.out.s1; omega) (Or.inl (by omega))⟩
    · refine m17.has (A16.out.bl e he) ?_
      simp only [List.mem_cons, List.not_mem_nil, or_false] at he
      rcases he with rfl | rfl | rfl
      · exact Or.inl (by show k1 < k8; omega)
      · exact Or.inl (by show h < k8; omega)
      · exact Or.inl (by show h + 1 < k8; omega)
  clear A16 m17
  obtain ⟨t0, t1, t2, t3, t4, t5, t6, t7, t8, t9⟩ := (show Has _ _ (ceL c x) from A17.out.bl (k1, ceL c x) (by simp)).ten
  obtain ⟨r0, r1, r2, r3, r4, r5, r6, r7, r8, r9⟩ := (show Has _ _ (ceL c p) from A17.out.bl (h, ceL c p) (by simp)).ten
  first | go_end0 | skip
  go_wp2_with fail
  refine (sameCell_any c x p _ (HU.out.2.1.later (HU.out.2.2.2.2.2.2.symm ▸ A17.out.b1)) (HU.out.1.later (HU.out.2.2.2.2.2.2.symm ▸ A17.out.b1)) HR.out.2.1).mono ?_
  rintro e w18 ⟨rfl, b18⟩
  have A18 : Hid (Al h w k1 u [(k1, ceL c x), (h, ceL c p), (h + 1, [.int .i64 d1, .int .i64 d2])] [] [] w18) := A17.out.later b18
  clear A17 b18 t0 t1 t2 t3 t4 t5 t6 t7 t8 t9 r0 r1 r2 r3 r4 r5 r6 r7 r8 r9
  go_wp2_with fail
  refine (dkept_any g cy ao ca ds _ (HU.out.2.2.2.1.later (HU.out.2.2.2.2.2.2.symm ▸ A18.out.b1)) (HU.out.2.2.1.later (HU.out.2.2.2.2.2.2.symm ▸ A18.out.b1)) HU.out.2.2.2.2.1 HR.out.2.2.2.2.1).mono ?_
  rintro e w19 ⟨rfl, b19⟩
  have A19 : Hid (Al h w k1 u [(k1, ceL c x), (h, ceL c p), (h + 1, [.int .i64 d1, .int .i64 d2])] [] [] w19) := A18.out.later b19
  clear A18 b19
  go_wp2_with fail
  refine (awake9_any _).mono ?_
  rintro e w20 ⟨rfl, b20⟩
  have A20 : Hid (Al h w k1 u [(k1, ceL c x), (h, ceL c p), (h + 1, [.int .i64 d1, .int .i64 d2])] [] [] w20) := A19.out.later b20
  clear A19 b20
  go_wp2
  go_ret
  exact ⟨rfl, A20.out.b0⟩

set_option maxRecDepth 100000 in
theorem walk {H : Type} {enc : TypeId × Value → H} {base : Nat} {d0 d1 d2 : DataW H} {p0 p1 p2 : List MemPlace} (v0 v1 v2 : Value) (v : ByteArray) (w : World)
    (o0 : Value.okWide Try.prog w .any base 30 v0) (h0 : DataW.Trod enc Try.prog w 0 (fun _ => true) true 30 v0 d0 p0) (z0 : ∀ n, n ∈ DataW.weights Try.prog 30 d0 → n ≤ reachBytes)
    (o1 : Value.okWide Try.prog w .any base 32 v1) (h1 : DataW.Trod enc Try.prog w 0 (fun _ => true) true 32 v1 d1 p1) (z1 : ∀ n, n ∈ DataW.weights Try.prog 32 d1 → n ≤ reachBytes)
    (o2 : Value.okWide Try.prog w .any base 33 v2) (h2 : DataW.Trod enc Try.prog w 0 (fun _ => true) true 33 v2 d2 p2) (z2 : ∀ n, n ∈ DataW.weights Try.prog 33 d2 → n ≤ reachBytes)
    (hv : v.size ≤ maxLen) :
    Calls Try.prog 3 #[v0, v1, v2, .string v] w fun e w' => e = .returned (.bool true) ∧ Below w.heap.size w w' := by
  obtain ⟨c, q, rfl, hc, hr, hf⟩ := open_cellC o0 h0 z0
  obtain ⟨t, n, rfl, _, _⟩ := open_two Try.underlying32 (by kernel_rfl) rfl rfl (by kernel_rfl) (by kernel_rfl) Try.underlying3 Try.underlying3 o1 h1
  obtain ⟨l, ao, ca, rfl, hd, hl⟩ := open_dots o2 h2 z2
  exact core c q (t, n) ao ca l v w hr hf hc hd hl hv

end Go.Proofs.Ytedgobdeoheaoaa.Orsets
