/-
  Package lww's Set where the write is taken: its three stores come in any order.
-/
import Derived.Test.YtdcfahkcgedegaaCeSet
import Derived.Test.YtdcfahkcgedegaaTakes
namespace Go.Proofs.Ytdcfahkcgedegaa
open Go.RowKit
set_option linter.unusedVariables false
set_option linter.unusedSimpArgs false

/-- What the region of the three stores needs of the stamp. -/
def Held5 (h : Nat) (t n : Int) (w2 : World) : Prop := w2.cell? ⟨h + 1, 0, none⟩ = some (.int .i64 t) ∧ w2.cell? ⟨h + 1, 1, none⟩ = some (.int .i64 n)

theorem held5_of {w w1 w2 : World} {h k : Nat} {c d : Ce} {p q : Pl} {t n : Int} (H3 : Set3 w h c p t n w1) (hk : w1.heap.size = k) (H : Set4 w1 k d q w2) : Held5 h t n w2 := by
  subst hk
  exact ((H3.later H.1).2.2.1).two


set_option maxHeartbeats 4000000 in
set_option maxRecDepth 100000 in
theorem lset_less (c : Ce) (p : Pl) (t n : Int) (v : ByteArray) (w : World) (hr : CRow w c p) (hf : Fit c) (hb : setB c t n v = true) (hs : c.set = true) (hl : lessB c.time c.node t n = true) :
    Calls Try.prog 8 #[ceV c p, .agg #[.int .i64 t, .int .i64 n], .string v] w fun e w' => ∃ q, e = .returned (.tuple #[ceV (c4 c true t n v) q, .int .i64 0]) ∧ COwn w.heap.size w' (c4 c true t n v) q ∧ Nils (c4 c true t n v) q ∧ Below w.heap.size w w' := by
  have H0 : Hid (Set3 w w.heap.size c p t n (((w.alloc (.cells (ceL c p).toArray 30)).alloc (.cells #[.int .i64 t, .int .i64 n] 23)).alloc (.cells (ceL ce0 pl0).toArray 30))) := set3_new _ _ _ _ _ _ _ _
  obtain ⟨h, hh⟩ : ∃ h, w.heap.size = h := ⟨_, rfl⟩
  rw [hh] at H0 ⊢
  have HR : Hid (CRow w c p ∧ Fit c) := ⟨hr, hf⟩
  simp only [setB, Bool.and_eq_true, decide_eq_true_eq] at hb
  obtain ⟨⟨hk, hm⟩, hv⟩ := hb
  have hk1 : (c.kind != 0) = false := by simpa using hk
  have hz : decide ((256 : Int) < (v.size : Int)) = false := by simp; omega
  have HS : Hid (c.set = true) := hs
  clear hs
  clear hr hf hk
  go_enter Try.func8, Try.ntmps8
  go_wp2_with fail
  refine (lmay_any t n _).mono ?_
  rintro e w1 ⟨rfl, b1⟩
  have H1 : Hid (Set3 w h c p t n w1) := H0.out.later b1
  clear b1 H0
  obtain ⟨t0, t1, t2, t3, t4, t5, t6, t7, t8, t9⟩ := H1.out.2.1.ten
  go_wp2_with fail
  refine (fcell_any c p _ (HR.out.1.later (hh.symm ▸ H1.out.1)) HR.out.2).mono ?_
  rintro e w2 ⟨q, rfl, o2, n2, b2⟩
  have H2 : Hid (Set3 w h c p t n w2) := H1.out.later b2
  have HO : Hid (COwn (h + 3) w2 c q ∧ Nils c q) := ⟨o2.mono H1.out.size, n2⟩
  clear t0 t1 t2 t3 t4 t5 t6 t7 t8 t9 b2 o2 n2 H1
  obtain ⟨k, hk⟩ : ∃ k, w2.heap.size = k := ⟨_, rfl⟩
  have H4 : Hid (Set4 w2 k c q (w2.alloc (.cells (ceL c q).toArray 30))) := set4_new hk c q _
  have hlt : h + 3 ≤ k := by have := H2.out.size; omega
  have x1 := H2.out.2.1.at 1 rfl
  have x2 := H2.out.2.1.at 2 rfl
  have x3 := H2.out.2.1.at 3 rfl
  have y0 := H2.out.2.2.1.at 0 rfl
  have y1 := H2.out.2.2.1.at 1 rfl
  have hl0 : h < k := by omega
  have hl1 : h + 1 < k := by omega
  have hl2 : h + 2 < k := by omega
  rw [HS.out] at x1
  go_wp2_with fail
  refine (less_any c.time c.node t n _).mono ?_
  rintro e w3 ⟨rfl, b3⟩
  have H5 : Hid (Set4 w2 k c q w3) := H4.out.later b3
  clear b3 H4
  have G0 : Hid (Set4 w2 k (c4 c c.set c.time c.node c.val) q w3.drew) := H5.out.later (Below.refl _ _).drew
  have hHeld0 := held5_of H2.out hk G0.out
  go_wp2_with fail
  refine wp_region_held_drew (S := Held5 h t n) (by kernel_rfl) hHeld0 (fun hHeld => ?_)
  clear hHeld0
  refine take_at 0 34 (v := .agg #[.int .i64 t, .int .i64 n]) rfl (by kernel_rfl) (by kernel_rfl) (by kernel_rfl) (fun _ _ _ h => h) rfl (by rfl) (fun w hSw => ?hy) hHeld ?_
  case hy =>
    obtain ⟨e0, e1⟩ := hSw
    go_simp
  simp only [List.set_cons_zero, List.set_cons_succ]
  refine take_at 1 35 (v := .string v) rfl (by kernel_rfl) (by kernel_rfl) (by kernel_rfl) (fun _ _ _ h => h) rfl (by rfl) (fun w hSw => ?hy) hHeld ?_
  case hy =>
    obtain ⟨e0, e1⟩ := hSw
    go_simp
  simp only [List.set_cons_zero, List.set_cons_succ]
  refine take_at 3 37 (v := .pointer (some ⟨k, 1, none⟩)) rfl (by kernel_rfl) (by kernel_rfl) (by kernel_rfl) (fun _ _ _ h => h) rfl (by rfl) (fun w hSw => ?hy) hHeld ?_
  case hy =>
    obtain ⟨e0, e1⟩ := hSw
    go_simp
  simp only [List.set_cons_zero, List.set_cons_succ]
  refine wpAnyH_ready (rs := [2]) (by kernel_rfl) (by simp) ?_
  refine AllReadyH.cons rfl (fun K hK => ?_) AllReadyH.nil
  go_simp
  refine (clone_any v _ (by omega)).mono ?_
  rintro e v1 ⟨rfl, b3⟩
  have G1 : Hid (Set4 w2 k (c4 c c.set c.time c.node c.val) q v1) := G0.out.later b3
  clear b3
  go_wp2_with fail
  refine hK.out _ _ (held5_of H2.out hk G1.out) (fun hHeld => ?_)
  clear hK K
  try simp only [Act.put, List.setIfInBounds_toArray, List.set_cons_zero, List.set_cons_succ]
  clear G0
  refine wpAnyH_ready (rs := [4]) (by kernel_rfl) (by simp) ?_
  refine AllReadyH.cons rfl (fun K hK => ?_) AllReadyH.nil
  have a1 := G1.out.2.at 1 rfl
  have f1 := G1.out.2.free 1 rfl
  go_simp
  have G2 : Hid (Set4 w2 k (c4 c true c.time c.node c.val) q (v1.setCell ⟨k, 1, none⟩ (.bool true))) := G1.out.s1
  refine hK.out _ _ (held5_of H2.out hk G2.out) (fun hHeld => ?_)
  clear hK K
  try simp only [Act.put, List.setIfInBounds_toArray, List.set_cons_zero, List.set_cons_succ]
  clear G1 a1 f1
  refine take_at 5 38 (v := .pointer (some ⟨k, 2, none⟩)) rfl (by kernel_rfl) (by kernel_rfl) (by kernel_rfl) (fun _ _ _ h => h) rfl (by rfl) (fun w hSw => ?hy) hHeld ?_
  case hy =>
    obtain ⟨e0, e1⟩ := hSw
    go_simp
  simp only [List.set_cons_zero, List.set_cons_succ]
  refine wpAnyH_ready (rs := [6]) (by kernel_rfl) (by simp) ?_
  refine AllReadyH.cons rfl (fun K hK => ?_) AllReadyH.nil
  have a1 := G2.out.2.at 2 rfl
  have f1 := G2.out.2.free 2 rfl
  have a2 := G2.out.2.at 3 rfl
  have f2 := G2.out.2.free 3 rfl
  go_simp
  have G3 : Hid (Set4 w2 k (c4 c true t n c.val) q (((v1.setCell ⟨k, 1, none⟩ (.bool true)).setCell ⟨k, 2, none⟩ (.int .i64 t)).setCell ⟨k, 3, none⟩ (.int .i64 n))) := G2.out.s2 t n
  refine hK.out _ _ (held5_of H2.out hk G3.out) (fun hHeld => ?_)
  clear hK K
  try simp only [Act.put, List.setIfInBounds_toArray, List.set_cons_zero, List.set_cons_succ]
  clear G2 a1 f1 a2 f2
  refine take_at 7 39 (v := .pointer (some ⟨k, 4, none⟩)) rfl (by kernel_rfl) (by kernel_rfl) (by kernel_rfl) (fun _ _ _ h => h) rfl (by rfl) (fun w hSw => ?hy) hHeld ?_
  case hy =>
    obtain ⟨e0, e1⟩ := hSw
    go_simp
  simp only [List.set_cons_zero, List.set_cons_succ]
  refine wpAnyH_ready (rs := [8]) (by kernel_rfl) (by simp) ?_
  refine AllReadyH.cons rfl (fun K hK => ?_) AllReadyH.nil
  have a1 := G3.out.2.at 4 rfl
  have f1 := G3.out.2.free 4 rfl
  go_simp
  have G4 : Hid (Set4 w2 k (c4 c true t n v) q ((((v1.setCell ⟨k, 1, none⟩ (.bool true)).setCell ⟨k, 2, none⟩ (.int .i64 t)).setCell ⟨k, 3, none⟩ (.int .i64 n)).setCell ⟨k, 4, none⟩ (.string v))) := G3.out.s3 v
  refine hK.out _ _ (held5_of H2.out hk G4.out) (fun hHeld => ?_)
  clear hK K
  try simp only [Act.put, List.setIfInBounds_toArray, List.set_cons_zero, List.set_cons_succ]
  clear G3 a1 f1
  refine wpAnyH_done (by kernel_rfl) ?_ _
  generalize hW : ((((v1.setCell ⟨k, 1, none⟩ (.bool true)).setCell ⟨k, 2, none⟩ (.int .i64 t)).setCell ⟨k, 3, none⟩ (.int .i64 n)).setCell ⟨k, 4, none⟩ (.string v)) = v4 at G4 ⊢
  clear hW hHeld
  obtain ⟨t0, t1, t2, t3, t4, t5, t6, t7, t8, t9⟩ := G4.out.2.ten
  obtain ⟨s0, s1, s2, s3, s4, s5, s6, s7, s8, s9⟩ := (H2.out.later (hk.symm ▸ G4.out.1)).2.2.2.ten
  obtain ⟨z0, z1, z2, z3, z4, z5, z6, z7, z8, z9⟩ := (H2.out.later (hk.symm ▸ G4.out.1)).2.2.2.tenf
  go_wp2_with fail
  exact set_end (d := c4 c true t n v) (q := q) H2.out hk HO.out.1 HO.out.2 G4.out.1 rfl rfl rfl rfl

set_option maxHeartbeats 4000000 in
set_option maxRecDepth 100000 in
theorem lset_new (c : Ce) (p : Pl) (t n : Int) (v : ByteArray) (w : World) (hr : CRow w c p) (hf : Fit c) (hb : setB c t n v = true) (hs : c.set = false) :
    Calls Try.prog 8 #[ceV c p, .agg #[.int .i64 t, .int .i64 n], .string v] w fun e w' => ∃ q, e = .returned (.tuple #[ceV (c4 c true t n v) q, .int .i64 0]) ∧ COwn w.heap.size w' (c4 c true t n v) q ∧ Nils (c4 c true t n v) q ∧ Below w.heap.size w w' := by
  have H0 : Hid (Set3 w w.heap.size c p t n (((w.alloc (.cells (ceL c p).toArray 30)).alloc (.cells #[.int .i64 t, .int .i64 n] 23)).alloc (.cells (ceL ce0 pl0).toArray 30))) := set3_new _ _ _ _ _ _ _ _
  obtain ⟨h, hh⟩ : ∃ h, w.heap.size = h := ⟨_, rfl⟩
  rw [hh] at H0 ⊢
  have HR : Hid (CRow w c p ∧ Fit c) := ⟨hr, hf⟩
  simp only [setB, Bool.and_eq_true, decide_eq_true_eq] at hb
  obtain ⟨⟨hk, hm⟩, hv⟩ := hb
  have hk1 : (c.kind != 0) = false := by simpa using hk
  have hz : decide ((256 : Int) < (v.size : Int)) = false := by simp; omega
  have HS : Hid (c.set = false) := hs
  clear hs
  clear hr hf hk
  go_enter Try.func8, Try.ntmps8
  go_wp2_with fail
  refine (lmay_any t n _).mono ?_
  rintro e w1 ⟨rfl, b1⟩
  have H1 : Hid (Set3 w h c p t n w1) := H0.out.later b1
  clear b1 H0
  obtain ⟨t0, t1, t2, t3, t4, t5, t6, t7, t8, t9⟩ := H1.out.2.1.ten
  go_wp2_with fail
  refine (fcell_any c p _ (HR.out.1.later (hh.symm ▸ H1.out.1)) HR.out.2).mono ?_
  rintro e w2 ⟨q, rfl, o2, n2, b2⟩
  have H2 : Hid (Set3 w h c p t n w2) := H1.out.later b2
  have HO : Hid (COwn (h + 3) w2 c q ∧ Nils c q) := ⟨o2.mono H1.out.size, n2⟩
  clear t0 t1 t2 t3 t4 t5 t6 t7 t8 t9 b2 o2 n2 H1
  obtain ⟨k, hk⟩ : ∃ k, w2.heap.size = k := ⟨_, rfl⟩
  have H4 : Hid (Set4 w2 k c q (w2.alloc (.cells (ceL c q).toArray 30))) := set4_new hk c q _
  have hlt : h + 3 ≤ k := by have := H2.out.size; omega
  have x1 := H2.out.2.1.at 1 rfl
  have x2 := H2.out.2.1.at 2 rfl
  have x3 := H2.out.2.1.at 3 rfl
  have y0 := H2.out.2.2.1.at 0 rfl
  have y1 := H2.out.2.2.1.at 1 rfl
  have hl0 : h < k := by omega
  have hl1 : h + 1 < k := by omega
  have hl2 : h + 2 < k := by omega
  rw [HS.out] at x1
  have G0 : Hid (Set4 w2 k (c4 c c.set c.time c.node c.val) q (w2.alloc (.cells (ceL c q).toArray 30)).drew) := H4.out.later (Below.refl _ _).drew
  have hHeld0 := held5_of H2.out hk G0.out
  go_wp2_with fail
  refine wp_region_held_drew (S := Held5 h t n) (by kernel_rfl) hHeld0 (fun hHeld => ?_)
  clear hHeld0
  refine take_at 0 34 (v := .agg #[.int .i64 t, .int .i64 n]) rfl (by kernel_rfl) (by kernel_rfl) (by kernel_rfl) (fun _ _ _ h => h) rfl (by rfl) (fun w hSw => ?hy) hHeld ?_
  case hy =>
    obtain ⟨e0, e1⟩ := hSw
    go_simp
  simp only [List.set_cons_zero, List.set_cons_succ]
  refine take_at 1 35 (v := .string v) rfl (by kernel_rfl) (by kernel_rfl) (by kernel_rfl) (fun _ _ _ h => h) rfl (by rfl) (fun w hSw => ?hy) hHeld ?_
  case hy =>
    obtain ⟨e0, e1⟩ := hSw
    go_simp
  simp only [List.set_cons_zero, List.set_cons_succ]
  refine take_at 3 37 (v := .pointer (some ⟨k, 1, none⟩)) rfl (by kernel_rfl) (by kernel_rfl) (by kernel_rfl) (fun _ _ _ h => h) rfl (by rfl) (fun w hSw => ?hy) hHeld ?_
  case hy =>
    obtain ⟨e0, e1⟩ := hSw
    go_simp
  simp only [List.set_cons_zero, List.set_cons_succ]
  refine wpAnyH_ready (rs := [2]) (by kernel_rfl) (by simp) ?_
  refine AllReadyH.cons rfl (fun K hK => ?_) AllReadyH.nil
  go_simp
  refine (clone_any v _ (by omega)).mono ?_
  rintro e v1 ⟨rfl, b3⟩
  have G1 : Hid (Set4 w2 k (c4 c c.set c.time c.node c.val) q v1) := G0.out.later b3
  clear b3
  go_wp2_with fail
  refine hK.out _ _ (held5_of H2.out hk G1.out) (fun hHeld => ?_)
  clear hK K
  try simp only [Act.put, List.setIfInBounds_toArray, List.set_cons_zero, List.set_cons_succ]
  clear G0
  refine wpAnyH_ready (rs := [4]) (by kernel_rfl) (by simp) ?_
  refine AllReadyH.cons rfl (fun K hK => ?_) AllReadyH.nil
  have a1 := G1.out.2.at 1 rfl
  have f1 := G1.out.2.free 1 rfl
  go_simp
  have G2 : Hid (Set4 w2 k (c4 c true c.time c.node c.val) q (v1.setCell ⟨k, 1, none⟩ (.bool true))) := G1.out.s1
  refine hK.out _ _ (held5_of H2.out hk G2.out) (fun hHeld => ?_)
  clear hK K
  try simp only [Act.put, List.setIfInBounds_toArray, List.set_cons_zero, List.set_cons_succ]
  clear G1 a1 f1
  refine take_at 5 38 (v := .pointer (some ⟨k, 2, none⟩)) rfl (by kernel_rfl) (by kernel_rfl) (by kernel_rfl) (fun _ _ _ h => h) rfl (by rfl) (fun w hSw => ?hy) hHeld ?_
  case hy =>
    obtain ⟨e0, e1⟩ := hSw
    go_simp
  simp only [List.set_cons_zero, List.set_cons_succ]
  refine wpAnyH_ready (rs := [6]) (by kernel_rfl) (by simp) ?_
  refine AllReadyH.cons rfl (fun K hK => ?_) AllReadyH.nil
  have a1 := G2.out.2.at 2 rfl
  have f1 := G2.out.2.free 2 rfl
  have a2 := G2.out.2.at 3 rfl
  have f2 := G2.out.2.free 3 rfl
  go_simp
  have G3 : Hid (Set4 w2 k (c4 c true t n c.val) q (((v1.setCell ⟨k, 1, none⟩ (.bool true)).setCell ⟨k, 2, none⟩ (.int .i64 t)).setCell ⟨k, 3, none⟩ (.int .i64 n))) := G2.out.s2 t n
  refine hK.out _ _ (held5_of H2.out hk G3.out) (fun hHeld => ?_)
  clear hK K
  try simp only [Act.put, List.setIfInBounds_toArray, List.set_cons_zero, List.set_cons_succ]
  clear G2 a1 f1 a2 f2
  refine take_at 7 39 (v := .pointer (some ⟨k, 4, none⟩)) rfl (by kernel_rfl) (by kernel_rfl) (by kernel_rfl) (fun _ _ _ h => h) rfl (by rfl) (fun w hSw => ?hy) hHeld ?_
  case hy =>
    obtain ⟨e0, e1⟩ := hSw
    go_simp
  simp only [List.set_cons_zero, List.set_cons_succ]
  refine wpAnyH_ready (rs := [8]) (by kernel_rfl) (by simp) ?_
  refine AllReadyH.cons rfl (fun K hK => ?_) AllReadyH.nil
  have a1 := G3.out.2.at 4 rfl
  have f1 := G3.out.2.free 4 rfl
  go_simp
  have G4 : Hid (Set4 w2 k (c4 c true t n v) q ((((v1.setCell ⟨k, 1, none⟩ (.bool true)).setCell ⟨k, 2, none⟩ (.int .i64 t)).setCell ⟨k, 3, none⟩ (.int .i64 n)).setCell ⟨k, 4, none⟩ (.string v))) := G3.out.s3 v
  refine hK.out _ _ (held5_of H2.out hk G4.out) (fun hHeld => ?_)
  clear hK K
  try simp only [Act.put, List.setIfInBounds_toArray, List.set_cons_zero, List.set_cons_succ]
  clear G3 a1 f1
  refine wpAnyH_done (by kernel_rfl) ?_ _
  generalize hW : ((((v1.setCell ⟨k, 1, none⟩ (.bool true)).setCell ⟨k, 2, none⟩ (.int .i64 t)).setCell ⟨k, 3, none⟩ (.int .i64 n)).setCell ⟨k, 4, none⟩ (.string v)) = v4 at G4 ⊢
  clear hW hHeld
  obtain ⟨t0, t1, t2, t3, t4, t5, t6, t7, t8, t9⟩ := G4.out.2.ten
  obtain ⟨s0, s1, s2, s3, s4, s5, s6, s7, s8, s9⟩ := (H2.out.later (hk.symm ▸ G4.out.1)).2.2.2.ten
  obtain ⟨z0, z1, z2, z3, z4, z5, z6, z7, z8, z9⟩ := (H2.out.later (hk.symm ▸ G4.out.1)).2.2.2.tenf
  go_wp2_with fail
  exact set_end (d := c4 c true t n v) (q := q) H2.out hk HO.out.1 HO.out.2 G4.out.1 rfl rfl rfl rfl

end Go.Proofs.Ytdcfahkcgedegaa
