/-
  The document's own OpMay, by contract.
-/
import Derived.Test.YtjfgccjdkflfoaaZRefMay11
import Derived.Deep.Cut
import Derived.Deep.CutRange
namespace Go.Proofs.Ytjfgccjdkflfoaa
open Go.RowKit
set_option linter.unusedVariables false
set_option linter.unusedSimpArgs false

theorem valZ_eq (o : O14) : valZ o = o.value.toList.isEmpty := by
  unfold valZ
  by_cases e : o.value.size = 0
  · rw [decide_eq_true e, none_of e, ByteArray.toList_eq]
    rfl
  · rw [full_of e, decide_eq_false e]

set_option maxHeartbeats 8000000 in
set_option maxRecDepth 100000 in
theorem ropmay_any (o : O14) (q : Pq) (n : Int) (w : World) (hr : ORow w o q) (hs : Siz o) : Calls Try.prog 17 #[oV o q, .int .i64 n] w fun e w' => e = .returned (.bool (mayO o n)) ∧ Below w.heap.size w w' := by
  obtain ⟨h, hh⟩ : ∃ h, w.heap.size = h := ⟨_, rfl⟩
  have H0 : Hid (OBox w h o q (w.alloc (.cells (oL o q).toArray 29)) ∧ (w.alloc (.cells (oL o q).toArray 29)).heap.size = h + 1) := obox_new hh hr _
  rw [hh]
  clear hr
  obtain ⟨dn, ds, time, deps, kind, ty, idd, field, value, re, im, rn, rs, dots⟩ := o
  obtain ⟨po, pc, qo, qc⟩ := q
  have HSZ : Hid (Siz ⟨dn, ds, time, deps, kind, ty, idd, field, value, re, im, rn, rs, dots⟩) := hs
  have z1 := hs.type
  have z2 := hs.field
  have z3 := hs.id
  have z4 := hs.value
  have z5 := hs.deps
  have z6 := hs.dots
  simp only at z1 z2 z3 z4 z5 z6
  clear hs
  go_enter Try.func17, Try.ntmps17
  go_wp2_with fail
  generalize hW : w.alloc (.cells (oL ⟨dn, ds, time, deps, kind, ty, idd, field, value, re, im, rn, rs, dots⟩ ⟨po, pc, qo, qc⟩).toArray 29) = w1 at H0 ⊢
  clear hW hh
  obtain ⟨k, hk⟩ : ∃ k, w1.heap.size = k := ⟨_, rfl⟩
  have HK : Hid (w1.heap.size = k) := hk
  have HB := hk
  have hhk : h < k := by have := H0.out.2; omega
  obtain ⟨g0, g1, g2, g3, g4, g5, g6, g7, g8, g9, g10, g11, g12, g13⟩ := (show Has w1 h (oL ⟨dn, ds, time, deps, kind, ty, idd, field, value, re, im, rn, rs, dots⟩ ⟨po, pc, qo, qc⟩) from H0.out.1.1).g14 hhk
  have hne : Nonempty (MW k w1) := MW.some hk
  have C1 : ∀ W, Calls Try.prog 38 #[.agg #[.int .i64 dn, .int .i64 ds], .int .i64 n] W fun e w' => e = .returned (.bool (mayB dn ds n)) ∧ Below W.heap.size W w' := fun W => refMay_any dn ds n W
  have C2 : ∀ r : MW k w1, Calls Try.prog 39 #[.slice po deps.length pc, .int .i64 n] r.w fun e w' => e = .returned (.bool (vecB deps n)) ∧ w' = r.w := fun r => vrefMay_any po pc deps n r.w (H0.out.1.2.1.1.later (HK.out.symm ▸ r.h.1)) (by unfold maxLen; omega)
  have C3 : ∀ r : MW k w1, Calls Try.prog 40 #[.string ty] r.w fun e w' => e = .returned (.bool (nameB ty)) ∧ w' = r.w := fun r => nref_any ty r.w (by unfold maxLen; omega)
  have C4 : ∀ r : MW k w1, Calls Try.prog 40 #[.string field] r.w fun e w' => e = .returned (.bool (nameB field)) ∧ w' = r.w := fun r => nref_any field r.w (by unfold maxLen; omega)
  have H1 : Hid (OBox w h ⟨dn, ds, time, deps, kind, ty, idd, field, value, re, im, rn, rs, dots⟩ ⟨po, pc, qo, qc⟩ w1) := H0.out.1
  clear H0 hk
  have H0 := H1
  clear H1
  refine wp_region_mild HB (by kernel_rfl) (by kernel_rfl) ?_
  dsimp only [List.append]
  cases h1 : mayB dn ds n with
  | false =>
    rw [h1] at C1
    repeat (go_big_quiet_step ((first | (go_at_call 38; refine (C1 _).mono ?_; rintro e w2 ⟨rfl, b⟩; exact ⟨rfl, MW.later _ b⟩) | (go_at_call 39; refine (C2 _).mono ?_; rintro e w2 ⟨rfl, b⟩; exact ⟨rfl, MW.same _ b⟩) | (go_at_call 40; first | (with_reducible refine (C3 _).mono ?_; rintro e w2 ⟨rfl, b⟩; exact ⟨rfl, MW.same _ b⟩) | (with_reducible refine (C4 _).mono ?_; rintro e w2 ⟨rfl, b⟩; exact ⟨rfl, MW.same _ b⟩)))))
    refine wpQuiet_nil ?_
    intro _ hw'
    obtain ⟨rq, rfl⟩ := hw'
    go_wp2
    go_ret
    exact ⟨ret_bool (by unfold mayO whenB; simp only [h1]; simp), (H0.out.later (HK.out.symm ▸ rq.h.1)).2.2.1⟩
  | true =>
    rw [h1] at C1
    by_cases ht : 1 ≤ time
    · have e2 : decide (time < (1 : Int)) = false := decide_eq_false (by omega)
      by_cases ht2 : time ≤ 16777215
      · have e3 : decide ((16777215 : Int) < time) = false := decide_eq_false (by omega)
        cases h2 : vecB deps n with
        | false =>
          rw [h2] at C2
          repeat (go_big_quiet_step ((first | (go_at_call 38; refine (C1 _).mono ?_; rintro e w2 ⟨rfl, b⟩; exact ⟨rfl, MW.later _ b⟩) | (go_at_call 39; refine (C2 _).mono ?_; rintro e w2 ⟨rfl, b⟩; exact ⟨rfl, MW.same _ b⟩) | (go_at_call 40; first | (with_reducible refine (C3 _).mono ?_; rintro e w2 ⟨rfl, b⟩; exact ⟨rfl, MW.same _ b⟩) | (with_reducible refine (C4 _).mono ?_; rintro e w2 ⟨rfl, b⟩; exact ⟨rfl, MW.same _ b⟩)))))
          refine wpQuiet_nil ?_
          intro _ hw'
          obtain ⟨rq, rfl⟩ := hw'
          go_wp2
          go_ret
          exact ⟨ret_bool (by unfold mayO whenB; simp only [h2]; simp), (H0.out.later (HK.out.symm ▸ rq.h.1)).2.2.1⟩
        | true =>
          rw [h2] at C2
          have hv := vec_mem h2
          have hb : 0 ≤ dn ∧ dn < deps.length ∧ 1 ≤ ds ∧ ds ≤ 1048575 := by
            unfold mayB at h1
            have := of_decide_eq_true h1
            omega
          obtain ⟨hb0, hb1, hb2, hb3⟩ := hb
          have hj : dn.toNat < deps.length := by omega
          have hw : IntKind.i64.wrap (ds - 1) = ds - 1 := by rw [IntKind.wrap_i64]; omega
          obtain ⟨x, hx⟩ : ∃ x, deps.getD dn.toNat 0 = x := ⟨_, rfl⟩
          have hxs : deps[dn.toNat]? = some x := by rw [← hx]; simp [List.getD, List.getElem?_eq_getElem hj]
          obtain ⟨bk, off, rfl, hbk, hc⟩ := H0.out.2.1.1 (by rw [flatI_len]; simp only; omega)
          have c0 : ∀ r : MW k w1, r.w.cell? ⟨bk, off + dn.toNat, none⟩ = some (.int .i64 x) := fun r => r.cell (hc dn.toNat _ (by simp [flatI, hxs])) (by rw [← HK.out]; exact hbk)
          have HX : Hid (deps.getD dn.toNat 0 = x) := hx
          clear hv hxs hx hc
          by_cases hx5 : x = ds - 1
          · have e5 : (x != ds - 1) = false := by simp [hx5]
            cases h3 : nameB ty with
            | false =>
              rw [h3] at C3
              repeat (go_big_quiet_step ((first | (go_at_call 38; refine (C1 _).mono ?_; rintro e w2 ⟨rfl, b⟩; exact ⟨rfl, MW.later _ b⟩) | (go_at_call 39; refine (C2 _).mono ?_; rintro e w2 ⟨rfl, b⟩; exact ⟨rfl, MW.same _ b⟩) | (go_at_call 40; first | (with_reducible refine (C3 _).mono ?_; rintro e w2 ⟨rfl, b⟩; exact ⟨rfl, MW.same _ b⟩) | (with_reducible refine (C4 _).mono ?_; rintro e w2 ⟨rfl, b⟩; exact ⟨rfl, MW.same _ b⟩)))))
              refine wpQuiet_nil ?_
              intro _ hw'
              obtain ⟨rq, rfl⟩ := hw'
              go_wp2
              go_ret
              exact ⟨ret_bool (by unfold mayO whereB; simp only [h3]; simp), (H0.out.later (HK.out.symm ▸ rq.h.1)).2.2.1⟩
            | true =>
              rw [h3] at C3
              cases h4 : nameB field with
              | false =>
                rw [h4] at C4
                repeat (go_big_quiet_step ((first | (go_at_call 38; refine (C1 _).mono ?_; rintro e w2 ⟨rfl, b⟩; exact ⟨rfl, MW.later _ b⟩) | (go_at_call 39; refine (C2 _).mono ?_; rintro e w2 ⟨rfl, b⟩; exact ⟨rfl, MW.same _ b⟩) | (go_at_call 40; first | (with_reducible refine (C3 _).mono ?_; rintro e w2 ⟨rfl, b⟩; exact ⟨rfl, MW.same _ b⟩) | (with_reducible refine (C4 _).mono ?_; rintro e w2 ⟨rfl, b⟩; exact ⟨rfl, MW.same _ b⟩)))))
                refine wpQuiet_nil ?_
                intro _ hw'
                obtain ⟨rq, rfl⟩ := hw'
                go_wp2
                go_ret
                exact ⟨ret_bool (by unfold mayO whereB; simp only [h4]; simp), (H0.out.later (HK.out.symm ▸ rq.h.1)).2.2.1⟩
              | true =>
                rw [h4] at C4
                by_cases hi1 : 1 ≤ idd.size
                · have e8 : decide ((idd.size : Int) < 1) = false := decide_eq_false (by omega)
                  have e8b : decide (idd.size < 1) = false := decide_eq_false (by omega)
                  by_cases hi2 : idd.size ≤ 256
                  · have e9 : decide ((256 : Int) < (idd.size : Int)) = false := decide_eq_false (by omega)
                    have e9b : decide (256 < idd.size) = false := decide_eq_false (by omega)
                    by_cases hv : value.size ≤ 256
                    · have e10 : decide ((256 : Int) < (value.size : Int)) = false := decide_eq_false (by omega)
                      have e10b : decide (256 < value.size) = false := decide_eq_false (by omega)
                      repeat (go_big_quiet_step ((first | (go_at_call 38; refine (C1 _).mono ?_; rintro e w2 ⟨rfl, b⟩; exact ⟨rfl, MW.later _ b⟩) | (go_at_call 39; refine (C2 _).mono ?_; rintro e w2 ⟨rfl, b⟩; exact ⟨rfl, MW.same _ b⟩) | (go_at_call 40; first | (with_reducible refine (C3 _).mono ?_; rintro e w2 ⟨rfl, b⟩; exact ⟨rfl, MW.same _ b⟩) | (with_reducible refine (C4 _).mono ?_; rintro e w2 ⟨rfl, b⟩; exact ⟨rfl, MW.same _ b⟩)))))
                      refine wpQuiet_nil ?_
                      intro _ hw'
                      obtain ⟨rq, rfl⟩ := hw'
                      go_upto_region 4 with fail
                      have HDP : Hid (mayO ⟨dn, ds, time, deps, kind, ty, idd, field, value, re, im, rn, rs, dots⟩ n = whatB ⟨dn, ds, time, deps, kind, ty, idd, field, value, re, im, rn, rs, dots⟩) := by
                        show mayO ⟨dn, ds, time, deps, kind, ty, idd, field, value, re, im, rn, rs, dots⟩ n = whatB ⟨dn, ds, time, deps, kind, ty, idd, field, value, re, im, rn, rs, dots⟩
                        have a1 : decide (1 ≤ time ∧ time ≤ 16777215) = true := decide_eq_true ⟨ht, ht2⟩
                        have a2 : decide (1 ≤ idd.size ∧ idd.size ≤ 256) = true := decide_eq_true ⟨hi1, hi2⟩
                        have a3 : decide (deps.getD dn.toNat 0 = ds - 1) = true := by rw [HX.out]; exact decide_eq_true hx5
                        unfold mayO whenB whereB
                        simp only [h1, h2, h3, h4, a1, a2, a3, Bool.and_self, Bool.true_and]
                      have HM : OBox w h ⟨dn, ds, time, deps, kind, ty, idd, field, value, re, im, rn, rs, dots⟩ ⟨some ⟨bk, off, none⟩, pc, qo, qc⟩ rq.w := H0.out.later (HK.out.symm ▸ rq.h.1)
                      have hkq : k ≤ rq.w.heap.size := rq.h.2
                      obtain ⟨g, hg⟩ : ∃ g, rq.w.heap.size = g := ⟨_, rfl⟩
                      have H2 : Hid (OBox w h ⟨dn, ds, time, deps, kind, ty, idd, field, value, re, im, rn, rs, dots⟩ ⟨some ⟨bk, off, none⟩, pc, qo, qc⟩ (rq.w.alloc (.cells #[.int .i64 0, .int .i64 0] 23))) := HM.later ((Below.refl _ _).alloc (Nat.le_refl _) _)
                      have N2 : Hid (Has (rq.w.alloc (.cells #[.int .i64 0, .int .i64 0] 23)) g [.int .i64 0, .int .i64 0]) := hg ▸ has_new rq.w [.int .i64 0, .int .i64 0] _
                      have hz : Hid (h < g) := by show h < g; omega
                      rw [hg]
                      generalize rq.w.alloc (.cells #[.int .i64 0, .int .i64 0] 23) = w2 at H2 N2 ⊢
                      clear HM hkq hg H0 HB g0 g1 g2 g3 g4 g5 g6 g7 g8 g9 g10 g11 g12 g13 c0 C1 C2 C3 C4 hne hbk
                      have HV : Hid (value.size ≤ 256) := hv
                      clear hv hi1 hi2 h1 h2 h3 h4 ht ht2 hx5 hb0 hb1 hb2 hb3 hj hw
                      obtain ⟨_, _, _, _, _, _, _, u7, _, u9, u10, u11, u12, u13⟩ := H2.out.1.f14
                      have n0 := N2.out.at 0 rfl
                      have n1 := N2.out.at 1 rfl
                      go_cut [2, 6, 7, 8, 9] from 4 to 17 (fun c2 c6 c7 c8 c9 wx => c2 = .pointer (some ⟨h, 0, none⟩) ∧ c6 = .bool (numZ ⟨dn, ds, time, deps, kind, ty, idd, field, value, re, im, rn, rs, dots⟩) ∧ c7 = .bool (refZ ⟨dn, ds, time, deps, kind, ty, idd, field, value, re, im, rn, rs, dots⟩) ∧ c8 = .bool (dotZ ⟨dn, ds, time, deps, kind, ty, idd, field, value, re, im, rn, rs, dots⟩) ∧ c9 = .bool (valZ ⟨dn, ds, time, deps, kind, ty, idd, field, value, re, im, rn, rs, dots⟩) ∧ Hid (OBox w h ⟨dn, ds, time, deps, kind, ty, idd, field, value, re, im, rn, rs, dots⟩ ⟨some ⟨bk, off, none⟩, pc, qo, qc⟩ wx))
                      case first =>
                        refine wp_region_quiet_lit (by kernel_rfl) (by kernel_rfl) ?_
                        iterate 3 (go_big_quiet_step (fail))
                        go_big_quiet_want
                        go_big_quiet_op
                        refine ⟨.bool (numZ ⟨dn, ds, time, deps, kind, ty, idd, field, value, re, im, rn, rs, dots⟩), fun a => ?_, ?_⟩
                        · by_cases q1 : re = 0 <;> by_cases q2 : im = 0 <;> simp [numZ, q1, q2]
                        go_big_quiet_on
                        iterate 3 (go_big_quiet_step (fail))
                        go_big_quiet_want
                        go_big_quiet_op
                        refine ⟨.bool (refZ ⟨dn, ds, time, deps, kind, ty, idd, field, value, re, im, rn, rs, dots⟩), fun a => ?_, ?_⟩
                        · by_cases q1 : rn = 0 <;> by_cases q2 : rs = 0 <;> simp [refZ, q1, q2]
                        go_big_quiet_on
                        repeat (go_big_quiet_step (fail))
                        refine wpQuiet_nil ?_
                        intro _ hw'
                        obtain ⟨nq, rfl⟩ := hw'
                        go_wp2
                        go_meet
                        exact ⟨rfl, rfl, rfl, congrArg Value.bool (by unfold dotZ; rw [Bool.eq_iff_iff]; simp), congrArg Value.bool (valZ_eq ⟨dn, ds, time, deps, kind, ty, idd, field, value, re, im, rn, rs, dots⟩).symm, H2.out.later (below_drewN (Below.refl _ _) _)⟩
                      case rest =>
                        obtain ⟨w3, rfl⟩ : ∃ z, z = wc := ⟨_, rfl⟩
                        obtain ⟨rfl, rfl, rfl, rfl, rfl, H3⟩ := hcut
                        generalize hbn : numZ ⟨dn, ds, time, deps, kind, ty, idd, field, value, re, im, rn, rs, dots⟩ = bn at *
                        generalize hbr : refZ ⟨dn, ds, time, deps, kind, ty, idd, field, value, re, im, rn, rs, dots⟩ = br at *
                        generalize hbd : dotZ ⟨dn, ds, time, deps, kind, ty, idd, field, value, re, im, rn, rs, dots⟩ = bd at *
                        generalize hbv : valZ ⟨dn, ds, time, deps, kind, ty, idd, field, value, re, im, rn, rs, dots⟩ = bv at *
                        have HVd : decide (value.size ≤ 256) = true := decide_eq_true HV.out
                        have B3 : Hid (Below h w w3) := H3.out.2.2.1
                        obtain ⟨_, _, _, u3, u4, u5, u6, u7, u8, u9, u10, u11, u12, u13⟩ := H3.out.1.f14
                        have CW1 : ∀ W, Calls Try.prog 41 #[.int .i64 re, .int .i64 1099511627776] W fun e w' => e = .returned (.bool (winB re)) ∧ w' = W := fun W => rwithin_any re W
                        have CW2 : ∀ W, Calls Try.prog 41 #[.int .i64 im, .int .i64 1099511627776] W fun e w' => e = .returned (.bool (winB im)) ∧ w' = W := fun W => rwithin_any im W
                        have CD : Calls Try.prog 42 #[oV ⟨dn, ds, time, deps, kind, ty, idd, field, value, re, im, rn, rs, dots⟩ ⟨some ⟨bk, off, none⟩, pc, qo, qc⟩] w3 fun e w' => e = .returned (.bool (dotsB deps dots)) ∧ Below w3.heap.size w3 w' := rdotsMay_any ⟨dn, ds, time, deps, kind, ty, idd, field, value, re, im, rn, rs, dots⟩ ⟨some ⟨bk, off, none⟩, pc, qo, qc⟩ w3 H3.out.2.1 HSZ.out
                        have CH : Calls Try.prog 43 #[.slice (some ⟨bk, off, none⟩) deps.length pc, .agg #[.int .i64 rn, .int .i64 rs]] w3 fun e w' => e = .returned (.bool (hasB deps (rn, rs))) ∧ Below w3.heap.size w3 w' := vrefHas_any (some ⟨bk, off, none⟩) pc deps (rn, rs) w3 H3.out.2.1.1
                        have hz3 : h ≤ w3.heap.size := by have := H3.out.2.2.2; omega
                        have hk : kind = 0 ∨ kind = 1 ∨ kind = 2 ∨ kind = 3 ∨ kind = 4 ∨ kind = 5 ∨ ¬ (0 ≤ kind ∧ kind ≤ 5) := by omega
                        rcases hk with rfl | rfl | rfl | rfl | rfl | rfl | hk
                        · clear CW1 CW2 CD CH
                          have E : Hid (mayO ⟨dn, ds, time, deps, 0, ty, idd, field, value, re, im, rn, rs, dots⟩ n = (bn && br && bd)) := by
                            show mayO ⟨dn, ds, time, deps, 0, ty, idd, field, value, re, im, rn, rs, dots⟩ n = (bn && br && bd)
                            rw [HDP.out]
                            unfold whatB
                            simp [hbn, hbr, hbd, hbv, HVd]
                          cases bn with
                          | false =>
                            go_wp2
                            go_ret
                            exact ⟨ret_bool (by first | (rw [E.out]; rfl) | rw [E.out]), B3.out⟩
                          | true =>
                            cases br with
                            | false =>
                              go_wp2
                              go_ret
                              exact ⟨ret_bool (by first | (rw [E.out]; rfl) | rw [E.out]), B3.out⟩
                            | true =>
                              cases bd with
                              | false =>
                                go_wp2
                                go_ret
                                exact ⟨ret_bool (by first | (rw [E.out]; rfl) | rw [E.out]), B3.out⟩
                              | true =>
                                go_wp2
                                go_ret
                                exact ⟨ret_bool (by first | (rw [E.out]; rfl) | rw [E.out]), B3.out⟩
                        · have E : Hid (mayO ⟨dn, ds, time, deps, 1, ty, idd, field, value, re, im, rn, rs, dots⟩ n = (br && bd && bv && winB re && winB im)) := by
                            show mayO ⟨dn, ds, time, deps, 1, ty, idd, field, value, re, im, rn, rs, dots⟩ n = (br && bd && bv && winB re && winB im)
                            rw [HDP.out]
                            unfold whatB
                            simp [hbn, hbr, hbd, hbv, HVd]
                          cases br with
                          | false =>
                            go_wp2
                            go_ret
                            exact ⟨ret_bool (by first | (rw [E.out]; rfl) | rw [E.out]), B3.out⟩
                          | true =>
                            cases bd with
                            | false =>
                              go_wp2
                              go_ret
                              exact ⟨ret_bool (by first | (rw [E.out]; rfl) | rw [E.out]), B3.out⟩
                            | true =>
                              cases bv with
                              | false =>
                                go_wp2
                                go_ret
                                exact ⟨ret_bool (by first | (rw [E.out]; rfl) | rw [E.out]), B3.out⟩
                              | true =>
                                cases hh3 : winB re with
                                | false =>
                                  rw [hh3] at E
                                  rw [hh3] at CW1
                                  go_wp2_with (go_at_call 41; first | (with_reducible refine (CW1 _).mono ?_; rintro e w4 ⟨rfl, rfl⟩) | (with_reducible refine (CW2 _).mono ?_; rintro e w4 ⟨rfl, rfl⟩))
                                  go_ret
                                  exact ⟨ret_bool (by first | (rw [E.out]; rfl) | rw [E.out]), B3.out⟩
                                | true =>
                                  rw [hh3] at E
                                  rw [hh3] at CW1
                                  cases hh4 : winB im with
                                  | false =>
                                    rw [hh4] at E
                                    rw [hh4] at CW2
                                    go_wp2_with (go_at_call 41; first | (with_reducible refine (CW1 _).mono ?_; rintro e w4 ⟨rfl, rfl⟩) | (with_reducible refine (CW2 _).mono ?_; rintro e w4 ⟨rfl, rfl⟩))
                                    go_ret
                                    exact ⟨ret_bool (by first | (rw [E.out]; rfl) | rw [E.out]), B3.out⟩
                                  | true =>
                                    rw [hh4] at E
                                    rw [hh4] at CW2
                                    go_wp2_with (go_at_call 41; first | (with_reducible refine (CW1 _).mono ?_; rintro e w4 ⟨rfl, rfl⟩) | (with_reducible refine (CW2 _).mono ?_; rintro e w4 ⟨rfl, rfl⟩))
                                    go_ret
                                    exact ⟨ret_bool (by first | (rw [E.out]; rfl) | rw [E.out]), B3.out⟩
                        · clear CW1 CW2 CD CH
                          have E : Hid (mayO ⟨dn, ds, time, deps, 2, ty, idd, field, value, re, im, rn, rs, dots⟩ n = (bn && br && bd)) := by
                            show mayO ⟨dn, ds, time, deps, 2, ty, idd, field, value, re, im, rn, rs, dots⟩ n = (bn && br && bd)
                            rw [HDP.out]
                            unfold whatB
                            simp [hbn, hbr, hbd, hbv, HVd]
                          cases bn with
                          | false =>
                            go_wp2
                            go_ret
                            exact ⟨ret_bool (by first | (rw [E.out]; rfl) | rw [E.out]), B3.out⟩
                          | true =>
                            cases br with
                            | false =>
                              go_wp2
                              go_ret
                              exact ⟨ret_bool (by first | (rw [E.out]; rfl) | rw [E.out]), B3.out⟩
                            | true =>
                              cases bd with
                              | false =>
                                go_wp2
                                go_ret
                                exact ⟨ret_bool (by first | (rw [E.out]; rfl) | rw [E.out]), B3.out⟩
                              | true =>
                                go_wp2
                                go_ret
                                exact ⟨ret_bool (by first | (rw [E.out]; rfl) | rw [E.out]), B3.out⟩
                        · have E : Hid (mayO ⟨dn, ds, time, deps, 3, ty, idd, field, value, re, im, rn, rs, dots⟩ n = (bn && br && bv && dotsB deps dots)) := by
                            show mayO ⟨dn, ds, time, deps, 3, ty, idd, field, value, re, im, rn, rs, dots⟩ n = (bn && br && bv && dotsB deps dots)
                            rw [HDP.out]
                            unfold whatB
                            simp [hbn, hbr, hbd, hbv, HVd]
                          cases bn with
                          | false =>
                            go_wp2
                            go_ret
                            exact ⟨ret_bool (by first | (rw [E.out]; rfl) | rw [E.out]), B3.out⟩
                          | true =>
                            cases br with
                            | false =>
                              go_wp2
                              go_ret
                              exact ⟨ret_bool (by first | (rw [E.out]; rfl) | rw [E.out]), B3.out⟩
                            | true =>
                              cases bv with
                              | false =>
                                go_wp2
                                go_ret
                                exact ⟨ret_bool (by first | (rw [E.out]; rfl) | rw [E.out]), B3.out⟩
                              | true =>
                                cases hh3 : dotsB deps dots with
                                | false =>
                                  rw [hh3] at E
                                  rw [hh3] at CD
                                  go_wp2_with (go_at_call 42; refine CD.mono ?_; rintro e w4 ⟨rfl, b4⟩)
                                  go_ret
                                  exact ⟨ret_bool (by first | (rw [E.out]; rfl) | rw [E.out]), B3.out.trans (b4.mono hz3)⟩
                                | true =>
                                  rw [hh3] at E
                                  rw [hh3] at CD
                                  go_wp2_with (go_at_call 42; refine CD.mono ?_; rintro e w4 ⟨rfl, b4⟩)
                                  go_ret
                                  exact ⟨ret_bool (by first | (rw [E.out]; rfl) | rw [E.out]), B3.out.trans (b4.mono hz3)⟩
                        · have E : Hid (mayO ⟨dn, ds, time, deps, 4, ty, idd, field, value, re, im, rn, rs, dots⟩ n = (bn && bd && (br || hasB deps (rn, rs)))) := by
                            show mayO ⟨dn, ds, time, deps, 4, ty, idd, field, value, re, im, rn, rs, dots⟩ n = (bn && bd && (br || hasB deps (rn, rs)))
                            rw [HDP.out]
                            unfold whatB
                            simp [hbn, hbr, hbd, hbv, HVd]
                          cases bn with
                          | false =>
                            go_wp2
                            go_ret
                            exact ⟨ret_bool (by first | (rw [E.out]; rfl) | rw [E.out]), B3.out⟩
                          | true =>
                            cases bd with
                            | false =>
                              go_wp2
                              go_ret
                              exact ⟨ret_bool (by first | (rw [E.out]; rfl) | rw [E.out]), B3.out⟩
                            | true =>
                              cases br with
                              | true =>
                                go_wp2
                                go_ret
                                exact ⟨ret_bool (by first | (rw [E.out]; rfl) | rw [E.out]), B3.out⟩
                              | false =>
                                cases hh : hasB deps (rn, rs) with
                                | false =>
                                  rw [hh] at E
                                  rw [hh] at CH
                                  go_wp2_with (go_at_call 43; refine CH.mono ?_; rintro e w4 ⟨rfl, b4⟩)
                                  go_ret
                                  exact ⟨ret_bool (by first | (rw [E.out]; rfl) | rw [E.out]), B3.out.trans (b4.mono hz3)⟩
                                | true =>
                                  rw [hh] at E
                                  rw [hh] at CH
                                  go_wp2_with (go_at_call 43; refine CH.mono ?_; rintro e w4 ⟨rfl, b4⟩)
                                  go_ret
                                  exact ⟨ret_bool (by first | (rw [E.out]; rfl) | rw [E.out]), B3.out.trans (b4.mono hz3)⟩
                        · have E : Hid (mayO ⟨dn, ds, time, deps, 5, ty, idd, field, value, re, im, rn, rs, dots⟩ n = (bn && bd && bv && hasB deps (rn, rs))) := by
                            show mayO ⟨dn, ds, time, deps, 5, ty, idd, field, value, re, im, rn, rs, dots⟩ n = (bn && bd && bv && hasB deps (rn, rs))
                            rw [HDP.out]
                            unfold whatB
                            simp [hbn, hbr, hbd, hbv, HVd]
                          cases bn with
                          | false =>
                            go_wp2
                            go_ret
                            exact ⟨ret_bool (by first | (rw [E.out]; rfl) | rw [E.out]), B3.out⟩
                          | true =>
                            cases bd with
                            | false =>
                              go_wp2
                              go_ret
                              exact ⟨ret_bool (by first | (rw [E.out]; rfl) | rw [E.out]), B3.out⟩
                            | true =>
                              cases bv with
                              | false =>
                                go_wp2
                                go_ret
                                exact ⟨ret_bool (by first | (rw [E.out]; rfl) | rw [E.out]), B3.out⟩
                              | true =>
                                cases hh3 : hasB deps (rn, rs) with
                                | false =>
                                  rw [hh3] at E
                                  rw [hh3] at CH
                                  go_wp2_with (go_at_call 43; refine CH.mono ?_; rintro e w4 ⟨rfl, b4⟩)
                                  go_ret
                                  exact ⟨ret_bool (by first | (rw [E.out]; rfl) | rw [E.out]), B3.out.trans (b4.mono hz3)⟩
                                | true =>
                                  rw [hh3] at E
                                  rw [hh3] at CH
                                  go_wp2_with (go_at_call 43; refine CH.mono ?_; rintro e w4 ⟨rfl, b4⟩)
                                  go_ret
                                  exact ⟨ret_bool (by first | (rw [E.out]; rfl) | rw [E.out]), B3.out.trans (b4.mono hz3)⟩
                        · clear CW1 CW2 CD CH
                          have E : Hid (mayO ⟨dn, ds, time, deps, kind, ty, idd, field, value, re, im, rn, rs, dots⟩ n = (false)) := by
                            show mayO ⟨dn, ds, time, deps, kind, ty, idd, field, value, re, im, rn, rs, dots⟩ n = (false)
                            rw [HDP.out]
                            unfold whatB
                            have t0 : ¬ (kind = 0 ∨ kind = 2) := by omega
                            have t1 : ¬ kind = 1 := by omega
                            have t3 : ¬ kind = 3 := by omega
                            have t4 : ¬ kind = 4 := by omega
                            have t5 : ¬ kind = 5 := by omega
                            simp only [t0, t1, t3, t4, t5, if_false, Bool.and_false]
                          have q0 : (kind == 0) = false := by rw [beq_eq_false_iff_ne]; omega
                          have q1 : (kind == 1) = false := by rw [beq_eq_false_iff_ne]; omega
                          have q2 : (kind == 2) = false := by rw [beq_eq_false_iff_ne]; omega
                          have q3 : (kind == 3) = false := by rw [beq_eq_false_iff_ne]; omega
                          have q4 : (kind == 4) = false := by rw [beq_eq_false_iff_ne]; omega
                          have q5 : (kind == 5) = false := by rw [beq_eq_false_iff_ne]; omega
                          clear hk
                          go_wp2
                          go_ret
                          exact ⟨ret_bool (by first | (rw [E.out]; rfl) | rw [E.out]), B3.out⟩
                    · have e10 : decide ((256 : Int) < (value.size : Int)) = true := decide_eq_true (by omega)
                      have e10b : decide (256 < value.size) = true := decide_eq_true (by omega)
                      repeat (go_big_quiet_step ((first | (go_at_call 38; refine (C1 _).mono ?_; rintro e w2 ⟨rfl, b⟩; exact ⟨rfl, MW.later _ b⟩) | (go_at_call 39; refine (C2 _).mono ?_; rintro e w2 ⟨rfl, b⟩; exact ⟨rfl, MW.same _ b⟩) | (go_at_call 40; first | (with_reducible refine (C3 _).mono ?_; rintro e w2 ⟨rfl, b⟩; exact ⟨rfl, MW.same _ b⟩) | (with_reducible refine (C4 _).mono ?_; rintro e w2 ⟨rfl, b⟩; exact ⟨rfl, MW.same _ b⟩)))))
                      refine wpQuiet_nil ?_
                      intro _ hw'
                      obtain ⟨rq, rfl⟩ := hw'
                      go_wp2
                      go_ret
                      exact ⟨ret_bool (by unfold mayO whatB; have e : decide (value.size ≤ 256) = false := (by simp; omega); simp only [e]; simp), (H0.out.later (HK.out.symm ▸ rq.h.1)).2.2.1⟩
                  · have e9 : decide ((256 : Int) < (idd.size : Int)) = true := decide_eq_true (by omega)
                    have e9b : decide (256 < idd.size) = true := decide_eq_true (by omega)
                    repeat (go_big_quiet_step ((first | (go_at_call 38; refine (C1 _).mono ?_; rintro e w2 ⟨rfl, b⟩; exact ⟨rfl, MW.later _ b⟩) | (go_at_call 39; refine (C2 _).mono ?_; rintro e w2 ⟨rfl, b⟩; exact ⟨rfl, MW.same _ b⟩) | (go_at_call 40; first | (with_reducible refine (C3 _).mono ?_; rintro e w2 ⟨rfl, b⟩; exact ⟨rfl, MW.same _ b⟩) | (with_reducible refine (C4 _).mono ?_; rintro e w2 ⟨rfl, b⟩; exact ⟨rfl, MW.same _ b⟩)))))
                    refine wpQuiet_nil ?_
                    intro _ hw'
                    obtain ⟨rq, rfl⟩ := hw'
                    go_wp2
                    go_ret
                    exact ⟨ret_bool (by unfold mayO whereB; have e : decide (1 ≤ idd.size ∧ idd.size ≤ 256) = false := (by simp; omega); simp only [e]; simp), (H0.out.later (HK.out.symm ▸ rq.h.1)).2.2.1⟩
                · have e8 : decide ((idd.size : Int) < 1) = true := decide_eq_true (by omega)
                  have e8b : decide (idd.size < 1) = true := decide_eq_true (by omega)
                  repeat (go_big_quiet_step ((first | (go_at_call 38; refine (C1 _).mono ?_; rintro e w2 ⟨rfl, b⟩; exact ⟨rfl, MW.later _ b⟩) | (go_at_call 39; refine (C2 _).mono ?_; rintro e w2 ⟨rfl, b⟩; exact ⟨rfl, MW.same _ b⟩) | (go_at_call 40; first | (with_reducible refine (C3 _).mono ?_; rintro e w2 ⟨rfl, b⟩; exact ⟨rfl, MW.same _ b⟩) | (with_reducible refine (C4 _).mono ?_; rintro e w2 ⟨rfl, b⟩; exact ⟨rfl, MW.same _ b⟩)))))
                  refine wpQuiet_nil ?_
                  intro _ hw'
                  obtain ⟨rq, rfl⟩ := hw'
                  go_wp2
                  go_ret
                  exact ⟨ret_bool (by unfold mayO whereB; have e : decide (1 ≤ idd.size ∧ idd.size ≤ 256) = false := (by simp; omega); simp only [e]; simp), (H0.out.later (HK.out.symm ▸ rq.h.1)).2.2.1⟩
          · have e5 : (x != ds - 1) = true := by rw [bne_iff_ne]; exact hx5
            repeat (go_big_quiet_step ((first | (go_at_call 38; refine (C1 _).mono ?_; rintro e w2 ⟨rfl, b⟩; exact ⟨rfl, MW.later _ b⟩) | (go_at_call 39; refine (C2 _).mono ?_; rintro e w2 ⟨rfl, b⟩; exact ⟨rfl, MW.same _ b⟩) | (go_at_call 40; first | (with_reducible refine (C3 _).mono ?_; rintro e w2 ⟨rfl, b⟩; exact ⟨rfl, MW.same _ b⟩) | (with_reducible refine (C4 _).mono ?_; rintro e w2 ⟨rfl, b⟩; exact ⟨rfl, MW.same _ b⟩)))))
            refine wpQuiet_nil ?_
            intro _ hw'
            obtain ⟨rq, rfl⟩ := hw'
            go_wp2
            go_ret
            exact ⟨ret_bool (by have e : decide (deps.getD dn.toNat 0 = ds - 1) = false := (by rw [HX.out]; simpa using hx5); unfold mayO whenB; simp only [e]; simp), (H0.out.later (HK.out.symm ▸ rq.h.1)).2.2.1⟩
      · have e3 : decide ((16777215 : Int) < time) = true := decide_eq_true (by omega)
        repeat (go_big_quiet_step ((first | (go_at_call 38; refine (C1 _).mono ?_; rintro e w2 ⟨rfl, b⟩; exact ⟨rfl, MW.later _ b⟩) | (go_at_call 39; refine (C2 _).mono ?_; rintro e w2 ⟨rfl, b⟩; exact ⟨rfl, MW.same _ b⟩) | (go_at_call 40; first | (with_reducible refine (C3 _).mono ?_; rintro e w2 ⟨rfl, b⟩; exact ⟨rfl, MW.same _ b⟩) | (with_reducible refine (C4 _).mono ?_; rintro e w2 ⟨rfl, b⟩; exact ⟨rfl, MW.same _ b⟩)))))
        refine wpQuiet_nil ?_
        intro _ hw'
        obtain ⟨rq, rfl⟩ := hw'
        go_wp2
        go_ret
        exact ⟨ret_bool (by have e : decide (1 ≤ time ∧ time ≤ 16777215) = false := (by simp; omega); unfold mayO whenB; simp only [e]; simp), (H0.out.later (HK.out.symm ▸ rq.h.1)).2.2.1⟩
    · have e2 : decide (time < (1 : Int)) = true := decide_eq_true (by omega)
      repeat (go_big_quiet_step ((first | (go_at_call 38; refine (C1 _).mono ?_; rintro e w2 ⟨rfl, b⟩; exact ⟨rfl, MW.later _ b⟩) | (go_at_call 39; refine (C2 _).mono ?_; rintro e w2 ⟨rfl, b⟩; exact ⟨rfl, MW.same _ b⟩) | (go_at_call 40; first | (with_reducible refine (C3 _).mono ?_; rintro e w2 ⟨rfl, b⟩; exact ⟨rfl, MW.same _ b⟩) | (with_reducible refine (C4 _).mono ?_; rintro e w2 ⟨rfl, b⟩; exact ⟨rfl, MW.same _ b⟩)))))
      refine wpQuiet_nil ?_
      intro _ hw'
      obtain ⟨rq, rfl⟩ := hw'
      go_wp2
      go_ret
      exact ⟨ret_bool (by have e : decide (1 ≤ time ∧ time ≤ 16777215) = false := (by simp; omega); unfold mayO whenB; simp only [e]; simp), (H0.out.later (HK.out.symm ▸ rq.h.1)).2.2.1⟩

end Go.Proofs.Ytjfgccjdkflfoaa

