/-
  Package op's mayWhat, kind by kind: OpSet, OpAdd, OpPut.
-/
import Derived.Test.YtgkddimijmnpcaaGreatDoorZWhat11
import Derived.Deep.Cut
import Derived.Deep.CutRange
namespace Go.Proofs.YtgkddimijmnpcaaGreatDoor
open Go.RowKit
set_option linter.unusedVariables false
set_option linter.unusedSimpArgs false

set_option maxHeartbeats 8000000 in
set_option maxRecDepth 100000 in
theorem what_0 (dn ds time : Int) (deps : List Int) (ty idd field value : ByteArray) (re im rn rs : Int) (dots : List D2) (q : Pq) (w : World) (hr : ORow w ⟨dn, ds, time, deps, 0, ty, idd, field, value, re, im, rn, rs, dots⟩ q) (hs : Siz ⟨dn, ds, time, deps, 0, ty, idd, field, value, re, im, rn, rs, dots⟩) : Calls Tryz.prog 52 #[oV ⟨dn, ds, time, deps, 0, ty, idd, field, value, re, im, rn, rs, dots⟩ q] w fun e w' => e = .returned (.bool (whatB ⟨dn, ds, time, deps, 0, ty, idd, field, value, re, im, rn, rs, dots⟩)) ∧ Below w.heap.size w w' := by
  obtain ⟨h, hh⟩ : ∃ h, w.heap.size = h := ⟨_, rfl⟩
  have H0 : Hid (OBox w h ⟨dn, ds, time, deps, 0, ty, idd, field, value, re, im, rn, rs, dots⟩ q (w.alloc (.cells (oL ⟨dn, ds, time, deps, 0, ty, idd, field, value, re, im, rn, rs, dots⟩ q).toArray 35)) ∧ (w.alloc (.cells (oL ⟨dn, ds, time, deps, 0, ty, idd, field, value, re, im, rn, rs, dots⟩ q).toArray 35)).heap.size = h + 1) := obox_new hh hr _
  rw [hh, what_chain]
  clear hr
  have hs1 := hs.value
  have hs2 := hs.dots
  clear hs
  simp only at hs1 hs2
  simp only
  go_enter Tryz.func52, Tryz.ntmps52
  go_wp2_with fail
  generalize hW : w.alloc (.cells (oL ⟨dn, ds, time, deps, 0, ty, idd, field, value, re, im, rn, rs, dots⟩ q).toArray 35) = w1 at H0 ⊢
  clear hW hh
  obtain ⟨g0, g1, g2, g3, g4, g5, g6, g7, g8, g9, g10, g11, g12, g13⟩ := (show Has w1 h (oL ⟨dn, ds, time, deps, 0, ty, idd, field, value, re, im, rn, rs, dots⟩ q) from H0.out.1.1).f14
  go_wp2_with fail
  refine (parts_any 0 _).mono ?_
  rintro e w2 ⟨rfl, b2⟩
  obtain ⟨kp, hkp⟩ : ∃ k, w2.heap.size = k := ⟨_, rfl⟩
  have H2 : Hid (OBox w h ⟨dn, ds, time, deps, 0, ty, idd, field, value, re, im, rn, rs, dots⟩ q (w2.alloc (.cells (pL 0).toArray 93)) ∧ Has (w2.alloc (.cells (pL 0).toArray 93)) kp (pL 0)) := by
    subst hkp
    exact ⟨(H0.out.1.later b2).later ((Below.refl _ _).alloc (Nat.le_refl _) _), has_new _ _ _⟩
  clear H0 b2 g0 g1 g2 g3 g4 g5 g6 g7 g8 g9 g10 g11 g12 g13
  go_upto_region 2 with fail
  generalize hW : w2.alloc (.cells (pL 0).toArray 93) = w3 at H2 ⊢
  clear hW hkp
  obtain ⟨g0, g1, g2, g3, g4, g5, g6, g7, g8, g9, g10, g11, g12, g13⟩ := (show Has w3 h (oL ⟨dn, ds, time, deps, 0, ty, idd, field, value, re, im, rn, rs, dots⟩ q) from H2.out.1.1).f14
  obtain ⟨p0, p1, p2, p3, p4⟩ := (show Has w3 kp (pL 0) from H2.out.2).fiveP
  have c0 : pCel 0 = 0 := rfl
  have c1 : pNum 0 = false := rfl
  have c2 : pDot 0 = false := rfl
  have c3 : pRef 0 = false := rfl
  have c4 : pVal 0 = true := rfl
  have c5 : pKno 0 = true := rfl
  rw [c1] at p1
  rw [c2] at p2
  rw [c3] at p3
  rw [c4] at p4
  by_cases hre : re = 0
  · by_cases him : im = 0
    · subst hre him
      have n1 : numZ ⟨dn, ds, time, deps, 0, ty, idd, field, value, 0, 0, rn, rs, dots⟩ = true := rfl
      have i1 : winB 0 = true := rfl
      by_cases hd : dots.length = 0
      · obtain rfl := List.eq_nil_of_length_eq_zero hd
        have d1 : dotZ ⟨dn, ds, time, deps, 0, ty, idd, field, value, 0, 0, rn, rs, []⟩ = true := rfl
        have d2 : dotsB deps [] = true := rfl
        cases r1 : refB ⟨dn, ds, time, deps, 0, ty, idd, field, value, 0, 0, rn, rs, []⟩ false with
        | false =>
          go_wp2_with (first | (go_at_call 96; refine (owithin_any _ _).mono ?_; rintro e w2 ⟨rfl, hw0⟩; have hw1 := hw0.symm; clear hw0; subst hw1) | (go_at_call 97; refine (mdots_any q.qo q.qc [] q.po q.pc deps _ H2.out.1.2.1.2 H2.out.1.2.1.1 (by unfold maxLen; first | omega | simp)).mono ?_; rintro e w4 ⟨rfl, b4⟩; have H4 : Hid (OBox w h ⟨dn, ds, time, deps, 0, ty, idd, field, value, 0, 0, rn, rs, []⟩ q w4 ∧ Has w4 kp (pL 0)) := ⟨H2.out.1.later b4, H2.out.2.later b4⟩; clear g0 g1 g2 g3 g4 g5 g6 g7 g8 g9 g10 g11 g12 g13 p0 p1 p2 p3 p4; obtain ⟨g0, g1, g2, g3, g4, g5, g6, g7, g8, g9, g10, g11, g12, g13⟩ := (show Has w4 h (oL ⟨dn, ds, time, deps, 0, ty, idd, field, value, 0, 0, rn, rs, []⟩ q) from H4.out.1.1).f14; obtain ⟨p0, p1, p2, p3, p4⟩ := (show Has w4 kp (pL 0) from H4.out.2).fiveP; rw [c1] at p1; rw [c2] at p2; rw [c3] at p3; rw [c4] at p4) | (go_at_call 98; refine (mref_any ⟨dn, ds, time, deps, 0, ty, idd, field, value, 0, 0, rn, rs, []⟩ q (pRef 0) _ H4.out.1.2.1).mono ?_; rintro e w5 ⟨rfl, b5⟩; have H5 : Hid (OBox w h ⟨dn, ds, time, deps, 0, ty, idd, field, value, 0, 0, rn, rs, []⟩ q w5 ∧ Has w5 kp (pL 0)) := ⟨H4.out.1.later b5, H4.out.2.later b5⟩; clear g0 g1 g2 g3 g4 g5 g6 g7 g8 g9 g10 g11 g12 g13 p0 p1 p2 p3 p4; obtain ⟨g0, g1, g2, g3, g4, g5, g6, g7, g8, g9, g10, g11, g12, g13⟩ := (show Has w5 h (oL ⟨dn, ds, time, deps, 0, ty, idd, field, value, 0, 0, rn, rs, []⟩ q) from H5.out.1.1).f14; obtain ⟨p0, p1, p2, p3, p4⟩ := (show Has w5 kp (pL 0) from H5.out.2).fiveP; rw [c1] at p1; rw [c2] at p2; rw [c3] at p3; rw [c4] at p4))
          go_ret
          exact ⟨ret_bool (by simp [c1, c2, c3, c4, c5, n1, i1, d1, d2, r1]; try omega), by first | exact H5.out.1.2.2.1 | exact H4.out.1.2.2.1 | exact H2.out.1.2.2.1⟩
        | true =>
          by_cases hv : value.size ≤ 256
          · have v2 : decide (value.size ≤ 256) = true := by simpa using hv
            go_wp2_with (first | (go_at_call 96; refine (owithin_any _ _).mono ?_; rintro e w2 ⟨rfl, hw0⟩; have hw1 := hw0.symm; clear hw0; subst hw1) | (go_at_call 97; refine (mdots_any q.qo q.qc [] q.po q.pc deps _ H2.out.1.2.1.2 H2.out.1.2.1.1 (by unfold maxLen; first | omega | simp)).mono ?_; rintro e w4 ⟨rfl, b4⟩; have H4 : Hid (OBox w h ⟨dn, ds, time, deps, 0, ty, idd, field, value, 0, 0, rn, rs, []⟩ q w4 ∧ Has w4 kp (pL 0)) := ⟨H2.out.1.later b4, H2.out.2.later b4⟩; clear g0 g1 g2 g3 g4 g5 g6 g7 g8 g9 g10 g11 g12 g13 p0 p1 p2 p3 p4; obtain ⟨g0, g1, g2, g3, g4, g5, g6, g7, g8, g9, g10, g11, g12, g13⟩ := (show Has w4 h (oL ⟨dn, ds, time, deps, 0, ty, idd, field, value, 0, 0, rn, rs, []⟩ q) from H4.out.1.1).f14; obtain ⟨p0, p1, p2, p3, p4⟩ := (show Has w4 kp (pL 0) from H4.out.2).fiveP; rw [c1] at p1; rw [c2] at p2; rw [c3] at p3; rw [c4] at p4) | (go_at_call 98; refine (mref_any ⟨dn, ds, time, deps, 0, ty, idd, field, value, 0, 0, rn, rs, []⟩ q (pRef 0) _ H4.out.1.2.1).mono ?_; rintro e w5 ⟨rfl, b5⟩; have H5 : Hid (OBox w h ⟨dn, ds, time, deps, 0, ty, idd, field, value, 0, 0, rn, rs, []⟩ q w5 ∧ Has w5 kp (pL 0)) := ⟨H4.out.1.later b5, H4.out.2.later b5⟩; clear g0 g1 g2 g3 g4 g5 g6 g7 g8 g9 g10 g11 g12 g13 p0 p1 p2 p3 p4; obtain ⟨g0, g1, g2, g3, g4, g5, g6, g7, g8, g9, g10, g11, g12, g13⟩ := (show Has w5 h (oL ⟨dn, ds, time, deps, 0, ty, idd, field, value, 0, 0, rn, rs, []⟩ q) from H5.out.1.1).f14; obtain ⟨p0, p1, p2, p3, p4⟩ := (show Has w5 kp (pL 0) from H5.out.2).fiveP; rw [c1] at p1; rw [c2] at p2; rw [c3] at p3; rw [c4] at p4))
            go_ret
            exact ⟨ret_bool (by simp [c1, c2, c3, c4, c5, n1, i1, d1, d2, r1, v2]; try omega), by first | exact H5.out.1.2.2.1 | exact H4.out.1.2.2.1 | exact H2.out.1.2.2.1⟩
          · have v2 : decide (value.size ≤ 256) = false := by simpa using hv
            go_wp2_with (first | (go_at_call 96; refine (owithin_any _ _).mono ?_; rintro e w2 ⟨rfl, hw0⟩; have hw1 := hw0.symm; clear hw0; subst hw1) | (go_at_call 97; refine (mdots_any q.qo q.qc [] q.po q.pc deps _ H2.out.1.2.1.2 H2.out.1.2.1.1 (by unfold maxLen; first | omega | simp)).mono ?_; rintro e w4 ⟨rfl, b4⟩; have H4 : Hid (OBox w h ⟨dn, ds, time, deps, 0, ty, idd, field, value, 0, 0, rn, rs, []⟩ q w4 ∧ Has w4 kp (pL 0)) := ⟨H2.out.1.later b4, H2.out.2.later b4⟩; clear g0 g1 g2 g3 g4 g5 g6 g7 g8 g9 g10 g11 g12 g13 p0 p1 p2 p3 p4; obtain ⟨g0, g1, g2, g3, g4, g5, g6, g7, g8, g9, g10, g11, g12, g13⟩ := (show Has w4 h (oL ⟨dn, ds, time, deps, 0, ty, idd, field, value, 0, 0, rn, rs, []⟩ q) from H4.out.1.1).f14; obtain ⟨p0, p1, p2, p3, p4⟩ := (show Has w4 kp (pL 0) from H4.out.2).fiveP; rw [c1] at p1; rw [c2] at p2; rw [c3] at p3; rw [c4] at p4) | (go_at_call 98; refine (mref_any ⟨dn, ds, time, deps, 0, ty, idd, field, value, 0, 0, rn, rs, []⟩ q (pRef 0) _ H4.out.1.2.1).mono ?_; rintro e w5 ⟨rfl, b5⟩; have H5 : Hid (OBox w h ⟨dn, ds, time, deps, 0, ty, idd, field, value, 0, 0, rn, rs, []⟩ q w5 ∧ Has w5 kp (pL 0)) := ⟨H4.out.1.later b5, H4.out.2.later b5⟩; clear g0 g1 g2 g3 g4 g5 g6 g7 g8 g9 g10 g11 g12 g13 p0 p1 p2 p3 p4; obtain ⟨g0, g1, g2, g3, g4, g5, g6, g7, g8, g9, g10, g11, g12, g13⟩ := (show Has w5 h (oL ⟨dn, ds, time, deps, 0, ty, idd, field, value, 0, 0, rn, rs, []⟩ q) from H5.out.1.1).f14; obtain ⟨p0, p1, p2, p3, p4⟩ := (show Has w5 kp (pL 0) from H5.out.2).fiveP; rw [c1] at p1; rw [c2] at p2; rw [c3] at p3; rw [c4] at p4))
            go_ret
            exact ⟨ret_bool (by simp [c1, c2, c3, c4, c5, n1, i1, d1, d2, r1, v2]; try omega), by first | exact H5.out.1.2.2.1 | exact H4.out.1.2.2.1 | exact H2.out.1.2.2.1⟩
      · have q2 : ((dots.length : Int) == 0) = false := by rw [beq_eq_false_iff_ne]; omega
        have q3 : (dots.length == 0) = false := by rw [beq_eq_false_iff_ne]; omega
        have d1 : dotZ ⟨dn, ds, time, deps, 0, ty, idd, field, value, 0, 0, rn, rs, dots⟩ = false := by unfold dotZ; simpa using hd
        go_wp2_with (first | (go_at_call 96; refine (owithin_any _ _).mono ?_; rintro e w2 ⟨rfl, hw0⟩; have hw1 := hw0.symm; clear hw0; subst hw1) | (go_at_call 97; refine (mdots_any q.qo q.qc dots q.po q.pc deps _ H2.out.1.2.1.2 H2.out.1.2.1.1 (by unfold maxLen; first | omega | simp)).mono ?_; rintro e w4 ⟨rfl, b4⟩; have H4 : Hid (OBox w h ⟨dn, ds, time, deps, 0, ty, idd, field, value, 0, 0, rn, rs, dots⟩ q w4 ∧ Has w4 kp (pL 0)) := ⟨H2.out.1.later b4, H2.out.2.later b4⟩; clear g0 g1 g2 g3 g4 g5 g6 g7 g8 g9 g10 g11 g12 g13 p0 p1 p2 p3 p4; obtain ⟨g0, g1, g2, g3, g4, g5, g6, g7, g8, g9, g10, g11, g12, g13⟩ := (show Has w4 h (oL ⟨dn, ds, time, deps, 0, ty, idd, field, value, 0, 0, rn, rs, dots⟩ q) from H4.out.1.1).f14; obtain ⟨p0, p1, p2, p3, p4⟩ := (show Has w4 kp (pL 0) from H4.out.2).fiveP; rw [c1] at p1; rw [c2] at p2; rw [c3] at p3; rw [c4] at p4) | (go_at_call 98; refine (mref_any ⟨dn, ds, time, deps, 0, ty, idd, field, value, 0, 0, rn, rs, dots⟩ q (pRef 0) _ H4.out.1.2.1).mono ?_; rintro e w5 ⟨rfl, b5⟩; have H5 : Hid (OBox w h ⟨dn, ds, time, deps, 0, ty, idd, field, value, 0, 0, rn, rs, dots⟩ q w5 ∧ Has w5 kp (pL 0)) := ⟨H4.out.1.later b5, H4.out.2.later b5⟩; clear g0 g1 g2 g3 g4 g5 g6 g7 g8 g9 g10 g11 g12 g13 p0 p1 p2 p3 p4; obtain ⟨g0, g1, g2, g3, g4, g5, g6, g7, g8, g9, g10, g11, g12, g13⟩ := (show Has w5 h (oL ⟨dn, ds, time, deps, 0, ty, idd, field, value, 0, 0, rn, rs, dots⟩ q) from H5.out.1.1).f14; obtain ⟨p0, p1, p2, p3, p4⟩ := (show Has w5 kp (pL 0) from H5.out.2).fiveP; rw [c1] at p1; rw [c2] at p2; rw [c3] at p3; rw [c4] at p4))
        go_ret
        exact ⟨ret_bool (by simp [c1, c2, c3, c4, c5, n1, i1, d1]; try omega), by first | exact H5.out.1.2.2.1 | exact H4.out.1.2.2.1 | exact H2.out.1.2.2.1⟩
    · subst hre
      have q1 : (im == 0) = false := by rw [beq_eq_false_iff_ne]; exact him
      have n1 : numZ ⟨dn, ds, time, deps, 0, ty, idd, field, value, 0, im, rn, rs, dots⟩ = false := by unfold numZ; simp [him]
      go_wp2_with (first | (go_at_call 96; refine (owithin_any _ _).mono ?_; rintro e w2 ⟨rfl, hw0⟩; have hw1 := hw0.symm; clear hw0; subst hw1) | (go_at_call 97; refine (mdots_any q.qo q.qc dots q.po q.pc deps _ H2.out.1.2.1.2 H2.out.1.2.1.1 (by unfold maxLen; first | omega | simp)).mono ?_; rintro e w4 ⟨rfl, b4⟩; have H4 : Hid (OBox w h ⟨dn, ds, time, deps, 0, ty, idd, field, value, 0, im, rn, rs, dots⟩ q w4 ∧ Has w4 kp (pL 0)) := ⟨H2.out.1.later b4, H2.out.2.later b4⟩; clear g0 g1 g2 g3 g4 g5 g6 g7 g8 g9 g10 g11 g12 g13 p0 p1 p2 p3 p4; obtain ⟨g0, g1, g2, g3, g4, g5, g6, g7, g8, g9, g10, g11, g12, g13⟩ := (show Has w4 h (oL ⟨dn, ds, time, deps, 0, ty, idd, field, value, 0, im, rn, rs, dots⟩ q) from H4.out.1.1).f14; obtain ⟨p0, p1, p2, p3, p4⟩ := (show Has w4 kp (pL 0) from H4.out.2).fiveP; rw [c1] at p1; rw [c2] at p2; rw [c3] at p3; rw [c4] at p4) | (go_at_call 98; refine (mref_any ⟨dn, ds, time, deps, 0, ty, idd, field, value, 0, im, rn, rs, dots⟩ q (pRef 0) _ H4.out.1.2.1).mono ?_; rintro e w5 ⟨rfl, b5⟩; have H5 : Hid (OBox w h ⟨dn, ds, time, deps, 0, ty, idd, field, value, 0, im, rn, rs, dots⟩ q w5 ∧ Has w5 kp (pL 0)) := ⟨H4.out.1.later b5, H4.out.2.later b5⟩; clear g0 g1 g2 g3 g4 g5 g6 g7 g8 g9 g10 g11 g12 g13 p0 p1 p2 p3 p4; obtain ⟨g0, g1, g2, g3, g4, g5, g6, g7, g8, g9, g10, g11, g12, g13⟩ := (show Has w5 h (oL ⟨dn, ds, time, deps, 0, ty, idd, field, value, 0, im, rn, rs, dots⟩ q) from H5.out.1.1).f14; obtain ⟨p0, p1, p2, p3, p4⟩ := (show Has w5 kp (pL 0) from H5.out.2).fiveP; rw [c1] at p1; rw [c2] at p2; rw [c3] at p3; rw [c4] at p4))
      go_ret
      exact ⟨ret_bool (by simp [c1, c2, c3, c4, c5, n1]; try omega), by first | exact H5.out.1.2.2.1 | exact H4.out.1.2.2.1 | exact H2.out.1.2.2.1⟩
  · have q1 : (re == 0) = false := by rw [beq_eq_false_iff_ne]; exact hre
    have n1 : numZ ⟨dn, ds, time, deps, 0, ty, idd, field, value, re, im, rn, rs, dots⟩ = false := by unfold numZ; simp [hre]
    go_wp2_with (first | (go_at_call 96; refine (owithin_any _ _).mono ?_; rintro e w2 ⟨rfl, hw0⟩; have hw1 := hw0.symm; clear hw0; subst hw1) | (go_at_call 97; refine (mdots_any q.qo q.qc dots q.po q.pc deps _ H2.out.1.2.1.2 H2.out.1.2.1.1 (by unfold maxLen; first | omega | simp)).mono ?_; rintro e w4 ⟨rfl, b4⟩; have H4 : Hid (OBox w h ⟨dn, ds, time, deps, 0, ty, idd, field, value, re, im, rn, rs, dots⟩ q w4 ∧ Has w4 kp (pL 0)) := ⟨H2.out.1.later b4, H2.out.2.later b4⟩; clear g0 g1 g2 g3 g4 g5 g6 g7 g8 g9 g10 g11 g12 g13 p0 p1 p2 p3 p4; obtain ⟨g0, g1, g2, g3, g4, g5, g6, g7, g8, g9, g10, g11, g12, g13⟩ := (show Has w4 h (oL ⟨dn, ds, time, deps, 0, ty, idd, field, value, re, im, rn, rs, dots⟩ q) from H4.out.1.1).f14; obtain ⟨p0, p1, p2, p3, p4⟩ := (show Has w4 kp (pL 0) from H4.out.2).fiveP; rw [c1] at p1; rw [c2] at p2; rw [c3] at p3; rw [c4] at p4) | (go_at_call 98; refine (mref_any ⟨dn, ds, time, deps, 0, ty, idd, field, value, re, im, rn, rs, dots⟩ q (pRef 0) _ H4.out.1.2.1).mono ?_; rintro e w5 ⟨rfl, b5⟩; have H5 : Hid (OBox w h ⟨dn, ds, time, deps, 0, ty, idd, field, value, re, im, rn, rs, dots⟩ q w5 ∧ Has w5 kp (pL 0)) := ⟨H4.out.1.later b5, H4.out.2.later b5⟩; clear g0 g1 g2 g3 g4 g5 g6 g7 g8 g9 g10 g11 g12 g13 p0 p1 p2 p3 p4; obtain ⟨g0, g1, g2, g3, g4, g5, g6, g7, g8, g9, g10, g11, g12, g13⟩ := (show Has w5 h (oL ⟨dn, ds, time, deps, 0, ty, idd, field, value, re, im, rn, rs, dots⟩ q) from H5.out.1.1).f14; obtain ⟨p0, p1, p2, p3, p4⟩ := (show Has w5 kp (pL 0) from H5.out.2).fiveP; rw [c1] at p1; rw [c2] at p2; rw [c3] at p3; rw [c4] at p4))
    go_ret
    exact ⟨ret_bool (by simp [c1, c2, c3, c4, c5, n1]; try omega), by first | exact H5.out.1.2.2.1 | exact H4.out.1.2.2.1 | exact H2.out.1.2.2.1⟩

set_option maxHeartbeats 8000000 in
set_option maxRecDepth 100000 in
theorem what_1 (dn ds time : Int) (deps : List Int) (ty idd field value : ByteArray) (re im rn rs : Int) (dots : List D2) (q : Pq) (w : World) (hr : ORow w ⟨dn, ds, time, deps, 1, ty, idd, field, value, re, im, rn, rs, dots⟩ q) (hs : Siz ⟨dn, ds, time, deps, 1, ty, idd, field, value, re, im, rn, rs, dots⟩) : Calls Tryz.prog 52 #[oV ⟨dn, ds, time, deps, 1, ty, idd, field, value, re, im, rn, rs, dots⟩ q] w fun e w' => e = .returned (.bool (whatB ⟨dn, ds, time, deps, 1, ty, idd, field, value, re, im, rn, rs, dots⟩)) ∧ Below w.heap.size w w' := by
  obtain ⟨h, hh⟩ : ∃ h, w.heap.size = h := ⟨_, rfl⟩
  have H0 : Hid (OBox w h ⟨dn, ds, time, deps, 1, ty, idd, field, value, re, im, rn, rs, dots⟩ q (w.alloc (.cells (oL ⟨dn, ds, time, deps, 1, ty, idd, field, value, re, im, rn, rs, dots⟩ q).toArray 35)) ∧ (w.alloc (.cells (oL ⟨dn, ds, time, deps, 1, ty, idd, field, value, re, im, rn, rs, dots⟩ q).toArray 35)).heap.size = h + 1) := obox_new hh hr _
  rw [hh, what_chain]
  clear hr
  have hs1 := hs.value
  have hs2 := hs.dots
  clear hs
  simp only at hs1 hs2
  simp only
  go_enter Tryz.func52, Tryz.ntmps52
  go_wp2_with fail
  generalize hW : w.alloc (.cells (oL ⟨dn, ds, time, deps, 1, ty, idd, field, value, re, im, rn, rs, dots⟩ q).toArray 35) = w1 at H0 ⊢
  clear hW hh
  obtain ⟨g0, g1, g2, g3, g4, g5, g6, g7, g8, g9, g10, g11, g12, g13⟩ := (show Has w1 h (oL ⟨dn, ds, time, deps, 1, ty, idd, field, value, re, im, rn, rs, dots⟩ q) from H0.out.1.1).f14
  go_wp2_with fail
  refine (parts_any 1 _).mono ?_
  rintro e w2 ⟨rfl, b2⟩
  obtain ⟨kp, hkp⟩ : ∃ k, w2.heap.size = k := ⟨_, rfl⟩
  have H2 : Hid (OBox w h ⟨dn, ds, time, deps, 1, ty, idd, field, value, re, im, rn, rs, dots⟩ q (w2.alloc (.cells (pL 1).toArray 93)) ∧ Has (w2.alloc (.cells (pL 1).toArray 93)) kp (pL 1)) := by
    subst hkp
    exact ⟨(H0.out.1.later b2).later ((Below.refl _ _).alloc (Nat.le_refl _) _), has_new _ _ _⟩
  clear H0 b2 g0 g1 g2 g3 g4 g5 g6 g7 g8 g9 g10 g11 g12 g13
  go_upto_region 2 with fail
  generalize hW : w2.alloc (.cells (pL 1).toArray 93) = w3 at H2 ⊢
  clear hW hkp
  obtain ⟨g0, g1, g2, g3, g4, g5, g6, g7, g8, g9, g10, g11, g12, g13⟩ := (show Has w3 h (oL ⟨dn, ds, time, deps, 1, ty, idd, field, value, re, im, rn, rs, dots⟩ q) from H2.out.1.1).f14
  obtain ⟨p0, p1, p2, p3, p4⟩ := (show Has w3 kp (pL 1) from H2.out.2).fiveP
  have c0 : pCel 1 = 1 := rfl
  have c1 : pNum 1 = true := rfl
  have c2 : pDot 1 = false := rfl
  have c3 : pRef 1 = false := rfl
  have c4 : pVal 1 = false := rfl
  have c5 : pKno 1 = true := rfl
  rw [c1] at p1
  rw [c2] at p2
  rw [c3] at p3
  rw [c4] at p4
  cases i1 : winB re with
  | false =>
    go_wp2_with (first | (go_at_call 96; refine (owithin_any _ _).mono ?_; rintro e w2 ⟨rfl, hw0⟩; have hw1 := hw0.symm; clear hw0; subst hw1) | (go_at_call 97; refine (mdots_any q.qo q.qc dots q.po q.pc deps _ H2.out.1.2.1.2 H2.out.1.2.1.1 (by unfold maxLen; first | omega | simp)).mono ?_; rintro e w4 ⟨rfl, b4⟩; have H4 : Hid (OBox w h ⟨dn, ds, time, deps, 1, ty, idd, field, value, re, im, rn, rs, dots⟩ q w4 ∧ Has w4 kp (pL 1)) := ⟨H2.out.1.later b4, H2.out.2.later b4⟩; clear g0 g1 g2 g3 g4 g5 g6 g7 g8 g9 g10 g11 g12 g13 p0 p1 p2 p3 p4; obtain ⟨g0, g1, g2, g3, g4, g5, g6, g7, g8, g9, g10, g11, g12, g13⟩ := (show Has w4 h (oL ⟨dn, ds, time, deps, 1, ty, idd, field, value, re, im, rn, rs, dots⟩ q) from H4.out.1.1).f14; obtain ⟨p0, p1, p2, p3, p4⟩ := (show Has w4 kp (pL 1) from H4.out.2).fiveP; rw [c1] at p1; rw [c2] at p2; rw [c3] at p3; rw [c4] at p4) | (go_at_call 98; refine (mref_any ⟨dn, ds, time, deps, 1, ty, idd, field, value, re, im, rn, rs, dots⟩ q (pRef 1) _ H4.out.1.2.1).mono ?_; rintro e w5 ⟨rfl, b5⟩; have H5 : Hid (OBox w h ⟨dn, ds, time, deps, 1, ty, idd, field, value, re, im, rn, rs, dots⟩ q w5 ∧ Has w5 kp (pL 1)) := ⟨H4.out.1.later b5, H4.out.2.later b5⟩; clear g0 g1 g2 g3 g4 g5 g6 g7 g8 g9 g10 g11 g12 g13 p0 p1 p2 p3 p4; obtain ⟨g0, g1, g2, g3, g4, g5, g6, g7, g8, g9, g10, g11, g12, g13⟩ := (show Has w5 h (oL ⟨dn, ds, time, deps, 1, ty, idd, field, value, re, im, rn, rs, dots⟩ q) from H5.out.1.1).f14; obtain ⟨p0, p1, p2, p3, p4⟩ := (show Has w5 kp (pL 1) from H5.out.2).fiveP; rw [c1] at p1; rw [c2] at p2; rw [c3] at p3; rw [c4] at p4))
    go_ret
    exact ⟨ret_bool (by simp [c1, c2, c3, c4, c5, i1]; try omega), by first | exact H5.out.1.2.2.1 | exact H4.out.1.2.2.1 | exact H2.out.1.2.2.1⟩
  | true =>
    cases i2 : winB im with
    | false =>
      go_wp2_with (first | (go_at_call 96; refine (owithin_any _ _).mono ?_; rintro e w2 ⟨rfl, hw0⟩; have hw1 := hw0.symm; clear hw0; subst hw1) | (go_at_call 97; refine (mdots_any q.qo q.qc dots q.po q.pc deps _ H2.out.1.2.1.2 H2.out.1.2.1.1 (by unfold maxLen; first | omega | simp)).mono ?_; rintro e w4 ⟨rfl, b4⟩; have H4 : Hid (OBox w h ⟨dn, ds, time, deps, 1, ty, idd, field, value, re, im, rn, rs, dots⟩ q w4 ∧ Has w4 kp (pL 1)) := ⟨H2.out.1.later b4, H2.out.2.later b4⟩; clear g0 g1 g2 g3 g4 g5 g6 g7 g8 g9 g10 g11 g12 g13 p0 p1 p2 p3 p4; obtain ⟨g0, g1, g2, g3, g4, g5, g6, g7, g8, g9, g10, g11, g12, g13⟩ := (show Has w4 h (oL ⟨dn, ds, time, deps, 1, ty, idd, field, value, re, im, rn, rs, dots⟩ q) from H4.out.1.1).f14; obtain ⟨p0, p1, p2, p3, p4⟩ := (show Has w4 kp (pL 1) from H4.out.2).fiveP; rw [c1] at p1; rw [c2] at p2; rw [c3] at p3; rw [c4] at p4) | (go_at_call 98; refine (mref_any ⟨dn, ds, time, deps, 1, ty, idd, field, value, re, im, rn, rs, dots⟩ q (pRef 1) _ H4.out.1.2.1).mono ?_; rintro e w5 ⟨rfl, b5⟩; have H5 : Hid (OBox w h ⟨dn, ds, time, deps, 1, ty, idd, field, value, re, im, rn, rs, dots⟩ q w5 ∧ Has w5 kp (pL 1)) := ⟨H4.out.1.later b5, H4.out.2.later b5⟩; clear g0 g1 g2 g3 g4 g5 g6 g7 g8 g9 g10 g11 g12 g13 p0 p1 p2 p3 p4; obtain ⟨g0, g1, g2, g3, g4, g5, g6, g7, g8, g9, g10, g11, g12, g13⟩ := (show Has w5 h (oL ⟨dn, ds, time, deps, 1, ty, idd, field, value, re, im, rn, rs, dots⟩ q) from H5.out.1.1).f14; obtain ⟨p0, p1, p2, p3, p4⟩ := (show Has w5 kp (pL 1) from H5.out.2).fiveP; rw [c1] at p1; rw [c2] at p2; rw [c3] at p3; rw [c4] at p4))
      go_ret
      exact ⟨ret_bool (by simp [c1, c2, c3, c4, c5, i1, i2]; try omega), by first | exact H5.out.1.2.2.1 | exact H4.out.1.2.2.1 | exact H2.out.1.2.2.1⟩
    | true =>
      by_cases hd : dots.length = 0
      · obtain rfl := List.eq_nil_of_length_eq_zero hd
        have d1 : dotZ ⟨dn, ds, time, deps, 1, ty, idd, field, value, re, im, rn, rs, []⟩ = true := rfl
        have d2 : dotsB deps [] = true := rfl
        cases r1 : refB ⟨dn, ds, time, deps, 1, ty, idd, field, value, re, im, rn, rs, []⟩ false with
        | false =>
          go_wp2_with (first | (go_at_call 96; refine (owithin_any _ _).mono ?_; rintro e w2 ⟨rfl, hw0⟩; have hw1 := hw0.symm; clear hw0; subst hw1) | (go_at_call 97; refine (mdots_any q.qo q.qc [] q.po q.pc deps _ H2.out.1.2.1.2 H2.out.1.2.1.1 (by unfold maxLen; first | omega | simp)).mono ?_; rintro e w4 ⟨rfl, b4⟩; have H4 : Hid (OBox w h ⟨dn, ds, time, deps, 1, ty, idd, field, value, re, im, rn, rs, []⟩ q w4 ∧ Has w4 kp (pL 1)) := ⟨H2.out.1.later b4, H2.out.2.later b4⟩; clear g0 g1 g2 g3 g4 g5 g6 g7 g8 g9 g10 g11 g12 g13 p0 p1 p2 p3 p4; obtain ⟨g0, g1, g2, g3, g4, g5, g6, g7, g8, g9, g10, g11, g12, g13⟩ := (show Has w4 h (oL ⟨dn, ds, time, deps, 1, ty, idd, field, value, re, im, rn, rs, []⟩ q) from H4.out.1.1).f14; obtain ⟨p0, p1, p2, p3, p4⟩ := (show Has w4 kp (pL 1) from H4.out.2).fiveP; rw [c1] at p1; rw [c2] at p2; rw [c3] at p3; rw [c4] at p4) | (go_at_call 98; refine (mref_any ⟨dn, ds, time, deps, 1, ty, idd, field, value, re, im, rn, rs, []⟩ q (pRef 1) _ H4.out.1.2.1).mono ?_; rintro e w5 ⟨rfl, b5⟩; have H5 : Hid (OBox w h ⟨dn, ds, time, deps, 1, ty, idd, field, value, re, im, rn, rs, []⟩ q w5 ∧ Has w5 kp (pL 1)) := ⟨H4.out.1.later b5, H4.out.2.later b5⟩; clear g0 g1 g2 g3 g4 g5 g6 g7 g8 g9 g10 g11 g12 g13 p0 p1 p2 p3 p4; obtain ⟨g0, g1, g2, g3, g4, g5, g6, g7, g8, g9, g10, g11, g12, g13⟩ := (show Has w5 h (oL ⟨dn, ds, time, deps, 1, ty, idd, field, value, re, im, rn, rs, []⟩ q) from H5.out.1.1).f14; obtain ⟨p0, p1, p2, p3, p4⟩ := (show Has w5 kp (pL 1) from H5.out.2).fiveP; rw [c1] at p1; rw [c2] at p2; rw [c3] at p3; rw [c4] at p4))
          go_ret
          exact ⟨ret_bool (by simp [c1, c2, c3, c4, c5, i1, i2, d1, d2, r1]; try omega), by first | exact H5.out.1.2.2.1 | exact H4.out.1.2.2.1 | exact H2.out.1.2.2.1⟩
        | true =>
          by_cases hv : value.size = 0
          · obtain rfl := none_of hv
            have v1 : valZ ⟨dn, ds, time, deps, 1, ty, idd, field, ⟨#[]⟩, re, im, rn, rs, []⟩ = true := rfl
            have v2 : decide ((⟨#[]⟩ : ByteArray).size ≤ 256) = true := rfl
            go_wp2_with (first | (go_at_call 96; refine (owithin_any _ _).mono ?_; rintro e w2 ⟨rfl, hw0⟩; have hw1 := hw0.symm; clear hw0; subst hw1) | (go_at_call 97; refine (mdots_any q.qo q.qc [] q.po q.pc deps _ H2.out.1.2.1.2 H2.out.1.2.1.1 (by unfold maxLen; first | omega | simp)).mono ?_; rintro e w4 ⟨rfl, b4⟩; have H4 : Hid (OBox w h ⟨dn, ds, time, deps, 1, ty, idd, field, ⟨#[]⟩, re, im, rn, rs, []⟩ q w4 ∧ Has w4 kp (pL 1)) := ⟨H2.out.1.later b4, H2.out.2.later b4⟩; clear g0 g1 g2 g3 g4 g5 g6 g7 g8 g9 g10 g11 g12 g13 p0 p1 p2 p3 p4; obtain ⟨g0, g1, g2, g3, g4, g5, g6, g7, g8, g9, g10, g11, g12, g13⟩ := (show Has w4 h (oL ⟨dn, ds, time, deps, 1, ty, idd, field, ⟨#[]⟩, re, im, rn, rs, []⟩ q) from H4.out.1.1).f14; obtain ⟨p0, p1, p2, p3, p4⟩ := (show Has w4 kp (pL 1) from H4.out.2).fiveP; rw [c1] at p1; rw [c2] at p2; rw [c3] at p3; rw [c4] at p4) | (go_at_call 98; refine (mref_any ⟨dn, ds, time, deps, 1, ty, idd, field, ⟨#[]⟩, re, im, rn, rs, []⟩ q (pRef 1) _ H4.out.1.2.1).mono ?_; rintro e w5 ⟨rfl, b5⟩; have H5 : Hid (OBox w h ⟨dn, ds, time, deps, 1, ty, idd, field, ⟨#[]⟩, re, im, rn, rs, []⟩ q w5 ∧ Has w5 kp (pL 1)) := ⟨H4.out.1.later b5, H4.out.2.later b5⟩; clear g0 g1 g2 g3 g4 g5 g6 g7 g8 g9 g10 g11 g12 g13 p0 p1 p2 p3 p4; obtain ⟨g0, g1, g2, g3, g4, g5, g6, g7, g8, g9, g10, g11, g12, g13⟩ := (show Has w5 h (oL ⟨dn, ds, time, deps, 1, ty, idd, field, ⟨#[]⟩, re, im, rn, rs, []⟩ q) from H5.out.1.1).f14; obtain ⟨p0, p1, p2, p3, p4⟩ := (show Has w5 kp (pL 1) from H5.out.2).fiveP; rw [c1] at p1; rw [c2] at p2; rw [c3] at p3; rw [c4] at p4))
            go_ret
            exact ⟨ret_bool (by simp [c1, c2, c3, c4, c5, i1, i2, d1, d2, r1, v1, v2]; try omega), by first | exact H5.out.1.2.2.1 | exact H4.out.1.2.2.1 | exact H2.out.1.2.2.1⟩
          · have q4 := full_of hv
            have v1 : valZ ⟨dn, ds, time, deps, 1, ty, idd, field, value, re, im, rn, rs, []⟩ = false := by unfold valZ; simpa using hv
            go_wp2_with (first | (go_at_call 96; refine (owithin_any _ _).mono ?_; rintro e w2 ⟨rfl, hw0⟩; have hw1 := hw0.symm; clear hw0; subst hw1) | (go_at_call 97; refine (mdots_any q.qo q.qc [] q.po q.pc deps _ H2.out.1.2.1.2 H2.out.1.2.1.1 (by unfold maxLen; first | omega | simp)).mono ?_; rintro e w4 ⟨rfl, b4⟩; have H4 : Hid (OBox w h ⟨dn, ds, time, deps, 1, ty, idd, field, value, re, im, rn, rs, []⟩ q w4 ∧ Has w4 kp (pL 1)) := ⟨H2.out.1.later b4, H2.out.2.later b4⟩; clear g0 g1 g2 g3 g4 g5 g6 g7 g8 g9 g10 g11 g12 g13 p0 p1 p2 p3 p4; obtain ⟨g0, g1, g2, g3, g4, g5, g6, g7, g8, g9, g10, g11, g12, g13⟩ := (show Has w4 h (oL ⟨dn, ds, time, deps, 1, ty, idd, field, value, re, im, rn, rs, []⟩ q) from H4.out.1.1).f14; obtain ⟨p0, p1, p2, p3, p4⟩ := (show Has w4 kp (pL 1) from H4.out.2).fiveP; rw [c1] at p1; rw [c2] at p2; rw [c3] at p3; rw [c4] at p4) | (go_at_call 98; refine (mref_any ⟨dn, ds, time, deps, 1, ty, idd, field, value, re, im, rn, rs, []⟩ q (pRef 1) _ H4.out.1.2.1).mono ?_; rintro e w5 ⟨rfl, b5⟩; have H5 : Hid (OBox w h ⟨dn, ds, time, deps, 1, ty, idd, field, value, re, im, rn, rs, []⟩ q w5 ∧ Has w5 kp (pL 1)) := ⟨H4.out.1.later b5, H4.out.2.later b5⟩; clear g0 g1 g2 g3 g4 g5 g6 g7 g8 g9 g10 g11 g12 g13 p0 p1 p2 p3 p4; obtain ⟨g0, g1, g2, g3, g4, g5, g6, g7, g8, g9, g10, g11, g12, g13⟩ := (show Has w5 h (oL ⟨dn, ds, time, deps, 1, ty, idd, field, value, re, im, rn, rs, []⟩ q) from H5.out.1.1).f14; obtain ⟨p0, p1, p2, p3, p4⟩ := (show Has w5 kp (pL 1) from H5.out.2).fiveP; rw [c1] at p1; rw [c2] at p2; rw [c3] at p3; rw [c4] at p4))
            go_ret
            exact ⟨ret_bool (by simp [c1, c2, c3, c4, c5, i1, i2, d1, d2, r1, v1]; try omega), by first | exact H5.out.1.2.2.1 | exact H4.out.1.2.2.1 | exact H2.out.1.2.2.1⟩
      · have q2 : ((dots.length : Int) == 0) = false := by rw [beq_eq_false_iff_ne]; omega
        have q3 : (dots.length == 0) = false := by rw [beq_eq_false_iff_ne]; omega
        have d1 : dotZ ⟨dn, ds, time, deps, 1, ty, idd, field, value, re, im, rn, rs, dots⟩ = false := by unfold dotZ; simpa using hd
        go_wp2_with (first | (go_at_call 96; refine (owithin_any _ _).mono ?_; rintro e w2 ⟨rfl, hw0⟩; have hw1 := hw0.symm; clear hw0; subst hw1) | (go_at_call 97; refine (mdots_any q.qo q.qc dots q.po q.pc deps _ H2.out.1.2.1.2 H2.out.1.2.1.1 (by unfold maxLen; first | omega | simp)).mono ?_; rintro e w4 ⟨rfl, b4⟩; have H4 : Hid (OBox w h ⟨dn, ds, time, deps, 1, ty, idd, field, value, re, im, rn, rs, dots⟩ q w4 ∧ Has w4 kp (pL 1)) := ⟨H2.out.1.later b4, H2.out.2.later b4⟩; clear g0 g1 g2 g3 g4 g5 g6 g7 g8 g9 g10 g11 g12 g13 p0 p1 p2 p3 p4; obtain ⟨g0, g1, g2, g3, g4, g5, g6, g7, g8, g9, g10, g11, g12, g13⟩ := (show Has w4 h (oL ⟨dn, ds, time, deps, 1, ty, idd, field, value, re, im, rn, rs, dots⟩ q) from H4.out.1.1).f14; obtain ⟨p0, p1, p2, p3, p4⟩ := (show Has w4 kp (pL 1) from H4.out.2).fiveP; rw [c1] at p1; rw [c2] at p2; rw [c3] at p3; rw [c4] at p4) | (go_at_call 98; refine (mref_any ⟨dn, ds, time, deps, 1, ty, idd, field, value, re, im, rn, rs, dots⟩ q (pRef 1) _ H4.out.1.2.1).mono ?_; rintro e w5 ⟨rfl, b5⟩; have H5 : Hid (OBox w h ⟨dn, ds, time, deps, 1, ty, idd, field, value, re, im, rn, rs, dots⟩ q w5 ∧ Has w5 kp (pL 1)) := ⟨H4.out.1.later b5, H4.out.2.later b5⟩; clear g0 g1 g2 g3 g4 g5 g6 g7 g8 g9 g10 g11 g12 g13 p0 p1 p2 p3 p4; obtain ⟨g0, g1, g2, g3, g4, g5, g6, g7, g8, g9, g10, g11, g12, g13⟩ := (show Has w5 h (oL ⟨dn, ds, time, deps, 1, ty, idd, field, value, re, im, rn, rs, dots⟩ q) from H5.out.1.1).f14; obtain ⟨p0, p1, p2, p3, p4⟩ := (show Has w5 kp (pL 1) from H5.out.2).fiveP; rw [c1] at p1; rw [c2] at p2; rw [c3] at p3; rw [c4] at p4))
        go_ret
        exact ⟨ret_bool (by simp [c1, c2, c3, c4, c5, i1, i2, d1]; try omega), by first | exact H5.out.1.2.2.1 | exact H4.out.1.2.2.1 | exact H2.out.1.2.2.1⟩

set_option maxHeartbeats 8000000 in
set_option maxRecDepth 100000 in
theorem what_2 (dn ds time : Int) (deps : List Int) (ty idd field value : ByteArray) (re im rn rs : Int) (dots : List D2) (q : Pq) (w : World) (hr : ORow w ⟨dn, ds, time, deps, 2, ty, idd, field, value, re, im, rn, rs, dots⟩ q) (hs : Siz ⟨dn, ds, time, deps, 2, ty, idd, field, value, re, im, rn, rs, dots⟩) : Calls Tryz.prog 52 #[oV ⟨dn, ds, time, deps, 2, ty, idd, field, value, re, im, rn, rs, dots⟩ q] w fun e w' => e = .returned (.bool (whatB ⟨dn, ds, time, deps, 2, ty, idd, field, value, re, im, rn, rs, dots⟩)) ∧ Below w.heap.size w w' := by
  obtain ⟨h, hh⟩ : ∃ h, w.heap.size = h := ⟨_, rfl⟩
  have H0 : Hid (OBox w h ⟨dn, ds, time, deps, 2, ty, idd, field, value, re, im, rn, rs, dots⟩ q (w.alloc (.cells (oL ⟨dn, ds, time, deps, 2, ty, idd, field, value, re, im, rn, rs, dots⟩ q).toArray 35)) ∧ (w.alloc (.cells (oL ⟨dn, ds, time, deps, 2, ty, idd, field, value, re, im, rn, rs, dots⟩ q).toArray 35)).heap.size = h + 1) := obox_new hh hr _
  rw [hh, what_chain]
  clear hr
  have hs1 := hs.value
  have hs2 := hs.dots
  clear hs
  simp only at hs1 hs2
  simp only
  go_enter Tryz.func52, Tryz.ntmps52
  go_wp2_with fail
  generalize hW : w.alloc (.cells (oL ⟨dn, ds, time, deps, 2, ty, idd, field, value, re, im, rn, rs, dots⟩ q).toArray 35) = w1 at H0 ⊢
  clear hW hh
  obtain ⟨g0, g1, g2, g3, g4, g5, g6, g7, g8, g9, g10, g11, g12, g13⟩ := (show Has w1 h (oL ⟨dn, ds, time, deps, 2, ty, idd, field, value, re, im, rn, rs, dots⟩ q) from H0.out.1.1).f14
  go_wp2_with fail
  refine (parts_any 2 _).mono ?_
  rintro e w2 ⟨rfl, b2⟩
  obtain ⟨kp, hkp⟩ : ∃ k, w2.heap.size = k := ⟨_, rfl⟩
  have H2 : Hid (OBox w h ⟨dn, ds, time, deps, 2, ty, idd, field, value, re, im, rn, rs, dots⟩ q (w2.alloc (.cells (pL 2).toArray 93)) ∧ Has (w2.alloc (.cells (pL 2).toArray 93)) kp (pL 2)) := by
    subst hkp
    exact ⟨(H0.out.1.later b2).later ((Below.refl _ _).alloc (Nat.le_refl _) _), has_new _ _ _⟩
  clear H0 b2 g0 g1 g2 g3 g4 g5 g6 g7 g8 g9 g10 g11 g12 g13
  go_upto_region 2 with fail
  generalize hW : w2.alloc (.cells (pL 2).toArray 93) = w3 at H2 ⊢
  clear hW hkp
  obtain ⟨g0, g1, g2, g3, g4, g5, g6, g7, g8, g9, g10, g11, g12, g13⟩ := (show Has w3 h (oL ⟨dn, ds, time, deps, 2, ty, idd, field, value, re, im, rn, rs, dots⟩ q) from H2.out.1.1).f14
  obtain ⟨p0, p1, p2, p3, p4⟩ := (show Has w3 kp (pL 2) from H2.out.2).fiveP
  have c0 : pCel 2 = 2 := rfl
  have c1 : pNum 2 = false := rfl
  have c2 : pDot 2 = false := rfl
  have c3 : pRef 2 = false := rfl
  have c4 : pVal 2 = true := rfl
  have c5 : pKno 2 = true := rfl
  rw [c1] at p1
  rw [c2] at p2
  rw [c3] at p3
  rw [c4] at p4
  by_cases hre : re = 0
  · by_cases him : im = 0
    · subst hre him
      have n1 : numZ ⟨dn, ds, time, deps, 2, ty, idd, field, value, 0, 0, rn, rs, dots⟩ = true := rfl
      have i1 : winB 0 = true := rfl
      by_cases hd : dots.length = 0
      · obtain rfl := List.eq_nil_of_length_eq_zero hd
        have d1 : dotZ ⟨dn, ds, time, deps, 2, ty, idd, field, value, 0, 0, rn, rs, []⟩ = true := rfl
        have d2 : dotsB deps [] = true := rfl
        cases r1 : refB ⟨dn, ds, time, deps, 2, ty, idd, field, value, 0, 0, rn, rs, []⟩ false with
        | false =>
          go_wp2_with (first | (go_at_call 96; refine (owithin_any _ _).mono ?_; rintro e w2 ⟨rfl, hw0⟩; have hw1 := hw0.symm; clear hw0; subst hw1) | (go_at_call 97; refine (mdots_any q.qo q.qc [] q.po q.pc deps _ H2.out.1.2.1.2 H2.out.1.2.1.1 (by unfold maxLen; first | omega | simp)).mono ?_; rintro e w4 ⟨rfl, b4⟩; have H4 : Hid (OBox w h ⟨dn, ds, time, deps, 2, ty, idd, field, value, 0, 0, rn, rs, []⟩ q w4 ∧ Has w4 kp (pL 2)) := ⟨H2.out.1.later b4, H2.out.2.later b4⟩; clear g0 g1 g2 g3 g4 g5 g6 g7 g8 g9 g10 g11 g12 g13 p0 p1 p2 p3 p4; obtain ⟨g0, g1, g2, g3, g4, g5, g6, g7, g8, g9, g10, g11, g12, g13⟩ := (show Has w4 h (oL ⟨dn, ds, time, deps, 2, ty, idd, field, value, 0, 0, rn, rs, []⟩ q) from H4.out.1.1).f14; obtain ⟨p0, p1, p2, p3, p4⟩ := (show Has w4 kp (pL 2) from H4.out.2).fiveP; rw [c1] at p1; rw [c2] at p2; rw [c3] at p3; rw [c4] at p4) | (go_at_call 98; refine (mref_any ⟨dn, ds, time, deps, 2, ty, idd, field, value, 0, 0, rn, rs, []⟩ q (pRef 2) _ H4.out.1.2.1).mono ?_; rintro e w5 ⟨rfl, b5⟩; have H5 : Hid (OBox w h ⟨dn, ds, time, deps, 2, ty, idd, field, value, 0, 0, rn, rs, []⟩ q w5 ∧ Has w5 kp (pL 2)) := ⟨H4.out.1.later b5, H4.out.2.later b5⟩; clear g0 g1 g2 g3 g4 g5 g6 g7 g8 g9 g10 g11 g12 g13 p0 p1 p2 p3 p4; obtain ⟨g0, g1, g2, g3, g4, g5, g6, g7, g8, g9, g10, g11, g12, g13⟩ := (show Has w5 h (oL ⟨dn, ds, time, deps, 2, ty, idd, field, value, 0, 0, rn, rs, []⟩ q) from H5.out.1.1).f14; obtain ⟨p0, p1, p2, p3, p4⟩ := (show Has w5 kp (pL 2) from H5.out.2).fiveP; rw [c1] at p1; rw [c2] at p2; rw [c3] at p3; rw [c4] at p4))
          go_ret
          exact ⟨ret_bool (by simp [c1, c2, c3, c4, c5, n1, i1, d1, d2, r1]; try omega), by first | exact H5.out.1.2.2.1 | exact H4.out.1.2.2.1 | exact H2.out.1.2.2.1⟩
        | true =>
          by_cases hv : value.size ≤ 256
          · have v2 : decide (value.size ≤ 256) = true := by simpa using hv
            go_wp2_with (first | (go_at_call 96; refine (owithin_any _ _).mono ?_; rintro e w2 ⟨rfl, hw0⟩; have hw1 := hw0.symm; clear hw0; subst hw1) | (go_at_call 97; refine (mdots_any q.qo q.qc [] q.po q.pc deps _ H2.out.1.2.1.2 H2.out.1.2.1.1 (by unfold maxLen; first | omega | simp)).mono ?_; rintro e w4 ⟨rfl, b4⟩; have H4 : Hid (OBox w h ⟨dn, ds, time, deps, 2, ty, idd, field, value, 0, 0, rn, rs, []⟩ q w4 ∧ Has w4 kp (pL 2)) := ⟨H2.out.1.later b4, H2.out.2.later b4⟩; clear g0 g1 g2 g3 g4 g5 g6 g7 g8 g9 g10 g11 g12 g13 p0 p1 p2 p3 p4; obtain ⟨g0, g1, g2, g3, g4, g5, g6, g7, g8, g9, g10, g11, g12, g13⟩ := (show Has w4 h (oL ⟨dn, ds, time, deps, 2, ty, idd, field, value, 0, 0, rn, rs, []⟩ q) from H4.out.1.1).f14; obtain ⟨p0, p1, p2, p3, p4⟩ := (show Has w4 kp (pL 2) from H4.out.2).fiveP; rw [c1] at p1; rw [c2] at p2; rw [c3] at p3; rw [c4] at p4) | (go_at_call 98; refine (mref_any ⟨dn, ds, time, deps, 2, ty, idd, field, value, 0, 0, rn, rs, []⟩ q (pRef 2) _ H4.out.1.2.1).mono ?_; rintro e w5 ⟨rfl, b5⟩; have H5 : Hid (OBox w h ⟨dn, ds, time, deps, 2, ty, idd, field, value, 0, 0, rn, rs, []⟩ q w5 ∧ Has w5 kp (pL 2)) := ⟨H4.out.1.later b5, H4.out.2.later b5⟩; clear g0 g1 g2 g3 g4 g5 g6 g7 g8 g9 g10 g11 g12 g13 p0 p1 p2 p3 p4; obtain ⟨g0, g1, g2, g3, g4, g5, g6, g7, g8, g9, g10, g11, g12, g13⟩ := (show Has w5 h (oL ⟨dn, ds, time, deps, 2, ty, idd, field, value, 0, 0, rn, rs, []⟩ q) from H5.out.1.1).f14; obtain ⟨p0, p1, p2, p3, p4⟩ := (show Has w5 kp (pL 2) from H5.out.2).fiveP; rw [c1] at p1; rw [c2] at p2; rw [c3] at p3; rw [c4] at p4))
            go_ret
            exact ⟨ret_bool (by simp [c1, c2, c3, c4, c5, n1, i1, d1, d2, r1, v2]; try omega), by first | exact H5.out.1.2.2.1 | exact H4.out.1.2.2.1 | exact H2.out.1.2.2.1⟩
          · have v2 : decide (value.size ≤ 256) = false := by simpa using hv
            go_wp2_with (first | (go_at_call 96; refine (owithin_any _ _).mono ?_; rintro e w2 ⟨rfl, hw0⟩; have hw1 := hw0.symm; clear hw0; subst hw1) | (go_at_call 97; refine (mdots_any q.qo q.qc [] q.po q.pc deps _ H2.out.1.2.1.2 H2.out.1.2.1.1 (by unfold maxLen; first | omega | simp)).mono ?_; rintro e w4 ⟨rfl, b4⟩; have H4 : Hid (OBox w h ⟨dn, ds, time, deps, 2, ty, idd, field, value, 0, 0, rn, rs, []⟩ q w4 ∧ Has w4 kp (pL 2)) := ⟨H2.out.1.later b4, H2.out.2.later b4⟩; clear g0 g1 g2 g3 g4 g5 g6 g7 g8 g9 g10 g11 g12 g13 p0 p1 p2 p3 p4; obtain ⟨g0, g1, g2, g3, g4, g5, g6, g7, g8, g9, g10, g11, g12, g13⟩ := (show Has w4 h (oL ⟨dn, ds, time, deps, 2, ty, idd, field, value, 0, 0, rn, rs, []⟩ q) from H4.out.1.1).f14; obtain ⟨p0, p1, p2, p3, p4⟩ := (show Has w4 kp (pL 2) from H4.out.2).fiveP; rw [c1] at p1; rw [c2] at p2; rw [c3] at p3; rw [c4] at p4) | (go_at_call 98; refine (mref_any ⟨dn, ds, time, deps, 2, ty, idd, field, value, 0, 0, rn, rs, []⟩ q (pRef 2) _ H4.out.1.2.1).mono ?_; rintro e w5 ⟨rfl, b5⟩; have H5 : Hid (OBox w h ⟨dn, ds, time, deps, 2, ty, idd, field, value, 0, 0, rn, rs, []⟩ q w5 ∧ Has w5 kp (pL 2)) := ⟨H4.out.1.later b5, H4.out.2.later b5⟩; clear g0 g1 g2 g3 g4 g5 g6 g7 g8 g9 g10 g11 g12 g13 p0 p1 p2 p3 p4; obtain ⟨g0, g1, g2, g3, g4, g5, g6, g7, g8, g9, g10, g11, g12, g13⟩ := (show Has w5 h (oL ⟨dn, ds, time, deps, 2, ty, idd, field, value, 0, 0, rn, rs, []⟩ q) from H5.out.1.1).f14; obtain ⟨p0, p1, p2, p3, p4⟩ := (show Has w5 kp (pL 2) from H5.out.2).fiveP; rw [c1] at p1; rw [c2] at p2; rw [c3] at p3; rw [c4] at p4))
            go_ret
            exact ⟨ret_bool (by simp [c1, c2, c3, c4, c5, n1, i1, d1, d2, r1, v2]; try omega), by first | exact H5.out.1.2.2.1 | exact H4.out.1.2.2.1 | exact H2.out.1.2.2.1⟩
      · have q2 : ((dots.length : Int) == 0) = false := by rw [beq_eq_false_iff_ne]; omega
        have q3 : (dots.length == 0) = false := by rw [beq_eq_false_iff_ne]; omega
        have d1 : dotZ ⟨dn, ds, time, deps, 2, ty, idd, field, value, 0, 0, rn, rs, dots⟩ = false := by unfold dotZ; simpa using hd
        go_wp2_with (first | (go_at_call 96; refine (owithin_any _ _).mono ?_; rintro e w2 ⟨rfl, hw0⟩; have hw1 := hw0.symm; clear hw0; subst hw1) | (go_at_call 97; refine (mdots_any q.qo q.qc dots q.po q.pc deps _ H2.out.1.2.1.2 H2.out.1.2.1.1 (by unfold maxLen; first | omega | simp)).mono ?_; rintro e w4 ⟨rfl, b4⟩; have H4 : Hid (OBox w h ⟨dn, ds, time, deps, 2, ty, idd, field, value, 0, 0, rn, rs, dots⟩ q w4 ∧ Has w4 kp (pL 2)) := ⟨H2.out.1.later b4, H2.out.2.later b4⟩; clear g0 g1 g2 g3 g4 g5 g6 g7 g8 g9 g10 g11 g12 g13 p0 p1 p2 p3 p4; obtain ⟨g0, g1, g2, g3, g4, g5, g6, g7, g8, g9, g10, g11, g12, g13⟩ := (show Has w4 h (oL ⟨dn, ds, time, deps, 2, ty, idd, field, value, 0, 0, rn, rs, dots⟩ q) from H4.out.1.1).f14; obtain ⟨p0, p1, p2, p3, p4⟩ := (show Has w4 kp (pL 2) from H4.out.2).fiveP; rw [c1] at p1; rw [c2] at p2; rw [c3] at p3; rw [c4] at p4) | (go_at_call 98; refine (mref_any ⟨dn, ds, time, deps, 2, ty, idd, field, value, 0, 0, rn, rs, dots⟩ q (pRef 2) _ H4.out.1.2.1).mono ?_; rintro e w5 ⟨rfl, b5⟩; have H5 : Hid (OBox w h ⟨dn, ds, time, deps, 2, ty, idd, field, value, 0, 0, rn, rs, dots⟩ q w5 ∧ Has w5 kp (pL 2)) := ⟨H4.out.1.later b5, H4.out.2.later b5⟩; clear g0 g1 g2 g3 g4 g5 g6 g7 g8 g9 g10 g11 g12 g13 p0 p1 p2 p3 p4; obtain ⟨g0, g1, g2, g3, g4, g5, g6, g7, g8, g9, g10, g11, g12, g13⟩ := (show Has w5 h (oL ⟨dn, ds, time, deps, 2, ty, idd, field, value, 0, 0, rn, rs, dots⟩ q) from H5.out.1.1).f14; obtain ⟨p0, p1, p2, p3, p4⟩ := (show Has w5 kp (pL 2) from H5.out.2).fiveP; rw [c1] at p1; rw [c2] at p2; rw [c3] at p3; rw [c4] at p4))
        go_ret
        exact ⟨ret_bool (by simp [c1, c2, c3, c4, c5, n1, i1, d1]; try omega), by first | exact H5.out.1.2.2.1 | exact H4.out.1.2.2.1 | exact H2.out.1.2.2.1⟩
    · subst hre
      have q1 : (im == 0) = false := by rw [beq_eq_false_iff_ne]; exact him
      have n1 : numZ ⟨dn, ds, time, deps, 2, ty, idd, field, value, 0, im, rn, rs, dots⟩ = false := by unfold numZ; simp [him]
      go_wp2_with (first | (go_at_call 96; refine (owithin_any _ _).mono ?_; rintro e w2 ⟨rfl, hw0⟩; have hw1 := hw0.symm; clear hw0; subst hw1) | (go_at_call 97; refine (mdots_any q.qo q.qc dots q.po q.pc deps _ H2.out.1.2.1.2 H2.out.1.2.1.1 (by unfold maxLen; first | omega | simp)).mono ?_; rintro e w4 ⟨rfl, b4⟩; have H4 : Hid (OBox w h ⟨dn, ds, time, deps, 2, ty, idd, field, value, 0, im, rn, rs, dots⟩ q w4 ∧ Has w4 kp (pL 2)) := ⟨H2.out.1.later b4, H2.out.2.later b4⟩; clear g0 g1 g2 g3 g4 g5 g6 g7 g8 g9 g10 g11 g12 g13 p0 p1 p2 p3 p4; obtain ⟨g0, g1, g2, g3, g4, g5, g6, g7, g8, g9, g10, g11, g12, g13⟩ := (show Has w4 h (oL ⟨dn, ds, time, deps, 2, ty, idd, field, value, 0, im, rn, rs, dots⟩ q) from H4.out.1.1).f14; obtain ⟨p0, p1, p2, p3, p4⟩ := (show Has w4 kp (pL 2) from H4.out.2).fiveP; rw [c1] at p1; rw [c2] at p2; rw [c3] at p3; rw [c4] at p4) | (go_at_call 98; refine (mref_any ⟨dn, ds, time, deps, 2, ty, idd, field, value, 0, im, rn, rs, dots⟩ q (pRef 2) _ H4.out.1.2.1).mono ?_; rintro e w5 ⟨rfl, b5⟩; have H5 : Hid (OBox w h ⟨dn, ds, time, deps, 2, ty, idd, field, value, 0, im, rn, rs, dots⟩ q w5 ∧ Has w5 kp (pL 2)) := ⟨H4.out.1.later b5, H4.out.2.later b5⟩; clear g0 g1 g2 g3 g4 g5 g6 g7 g8 g9 g10 g11 g12 g13 p0 p1 p2 p3 p4; obtain ⟨g0, g1, g2, g3, g4, g5, g6, g7, g8, g9, g10, g11, g12, g13⟩ := (show Has w5 h (oL ⟨dn, ds, time, deps, 2, ty, idd, field, value, 0, im, rn, rs, dots⟩ q) from H5.out.1.1).f14; obtain ⟨p0, p1, p2, p3, p4⟩ := (show Has w5 kp (pL 2) from H5.out.2).fiveP; rw [c1] at p1; rw [c2] at p2; rw [c3] at p3; rw [c4] at p4))
      go_ret
      exact ⟨ret_bool (by simp [c1, c2, c3, c4, c5, n1]; try omega), by first | exact H5.out.1.2.2.1 | exact H4.out.1.2.2.1 | exact H2.out.1.2.2.1⟩
  · have q1 : (re == 0) = false := by rw [beq_eq_false_iff_ne]; exact hre
    have n1 : numZ ⟨dn, ds, time, deps, 2, ty, idd, field, value, re, im, rn, rs, dots⟩ = false := by unfold numZ; simp [hre]
    go_wp2_with (first | (go_at_call 96; refine (owithin_any _ _).mono ?_; rintro e w2 ⟨rfl, hw0⟩; have hw1 := hw0.symm; clear hw0; subst hw1) | (go_at_call 97; refine (mdots_any q.qo q.qc dots q.po q.pc deps _ H2.out.1.2.1.2 H2.out.1.2.1.1 (by unfold maxLen; first | omega | simp)).mono ?_; rintro e w4 ⟨rfl, b4⟩; have H4 : Hid (OBox w h ⟨dn, ds, time, deps, 2, ty, idd, field, value, re, im, rn, rs, dots⟩ q w4 ∧ Has w4 kp (pL 2)) := ⟨H2.out.1.later b4, H2.out.2.later b4⟩; clear g0 g1 g2 g3 g4 g5 g6 g7 g8 g9 g10 g11 g12 g13 p0 p1 p2 p3 p4; obtain ⟨g0, g1, g2, g3, g4, g5, g6, g7, g8, g9, g10, g11, g12, g13⟩ := (show Has w4 h (oL ⟨dn, ds, time, deps, 2, ty, idd, field, value, re, im, rn, rs, dots⟩ q) from H4.out.1.1).f14; obtain ⟨p0, p1, p2, p3, p4⟩ := (show Has w4 kp (pL 2) from H4.out.2).fiveP; rw [c1] at p1; rw [c2] at p2; rw [c3] at p3; rw [c4] at p4) | (go_at_call 98; refine (mref_any ⟨dn, ds, time, deps, 2, ty, idd, field, value, re, im, rn, rs, dots⟩ q (pRef 2) _ H4.out.1.2.1).mono ?_; rintro e w5 ⟨rfl, b5⟩; have H5 : Hid (OBox w h ⟨dn, ds, time, deps, 2, ty, idd, field, value, re, im, rn, rs, dots⟩ q w5 ∧ Has w5 kp (pL 2)) := ⟨H4.out.1.later b5, H4.out.2.later b5⟩; clear g0 g1 g2 g3 g4 g5 g6 g7 g8 g9 g10 g11 g12 g13 p0 p1 p2 p3 p4; obtain ⟨g0, g1, g2, g3, g4, g5, g6, g7, g8, g9, g10, g11, g12, g13⟩ := (show Has w5 h (oL ⟨dn, ds, time, deps, 2, ty, idd, field, value, re, im, rn, rs, dots⟩ q) from H5.out.1.1).f14; obtain ⟨p0, p1, p2, p3, p4⟩ := (show Has w5 kp (pL 2) from H5.out.2).fiveP; rw [c1] at p1; rw [c2] at p2; rw [c3] at p3; rw [c4] at p4))
    go_ret
    exact ⟨ret_bool (by simp [c1, c2, c3, c4, c5, n1]; try omega), by first | exact H5.out.1.2.2.1 | exact H4.out.1.2.2.1 | exact H2.out.1.2.2.1⟩

end Go.Proofs.YtgkddimijmnpcaaGreatDoor

