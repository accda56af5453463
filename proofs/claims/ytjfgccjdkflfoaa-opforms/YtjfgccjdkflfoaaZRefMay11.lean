/-
  The document's own answers for layer 11: within, dotsMay, KindOf, fold, OpMay, by contracts.
-/
import Derived.Test.YtjfgccjdkflfoaaZOpMay11
namespace Go.Proofs.Ytjfgccjdkflfoaa
open Go.RowKit
set_option linter.unusedVariables false
set_option linter.unusedSimpArgs false

theorem rwithin_any (x : Int) (w : World) : Calls Try.prog 41 #[.int .i64 x, .int .i64 1099511627776] w fun e w' => e = .returned (.bool (winB x)) ∧ w' = w := by
  go_enter Try.func41, Try.ntmps41
  go_wp2
  all_goals (go_ret; exact ⟨ret_bool (by unfold winB; rw [Bool.eq_iff_iff]; simp; try omega), rfl⟩)

set_option maxHeartbeats 400000 in
theorem rfold_any (x : Int) (w : World) (h : winB x = true) : Calls Try.prog 25 #[.int .i64 x] w fun e w' => e = .returned (.int .i64 (foldI x)) ∧ w' = w := by
  have hb : -1099511627776 ≤ x ∧ x ≤ 1099511627776 := of_decide_eq_true h
  unfold foldI
  by_cases h0 : x < 0
  · rw [if_pos h0]
    go_enter Try.func25, Try.ntmps25
    go_wp2
    go_ret
    exact ⟨by go_num, rfl⟩
  · rw [if_neg h0]
    go_enter Try.func25, Try.ntmps25
    go_wp2
    go_ret
    exact ⟨by go_num, rfl⟩

set_option maxHeartbeats 1000000 in
set_option maxRecDepth 100000 in
theorem rkind_any (o : O14) (q : Pq) (w : World) : Calls Try.prog 19 #[oV o q] w fun e w' => e = .returned (.int .i64 (kindN o.kind)) ∧ Below w.heap.size w w' := by
  have hal : Below w.heap.size w (w.alloc (.cells (oL o q).toArray 29)) := (Below.refl _ _).alloc (Nat.le_refl _) _
  obtain ⟨dn, ds, time, deps, kind, ty, idd, field, value, re, im, rn, rs, dots⟩ := o
  have hk : kind = 0 ∨ kind = 1 ∨ kind = 2 ∨ kind = 3 ∨ kind = 4 ∨ kind = 5 ∨ ¬ (0 ≤ kind ∧ kind ≤ 5) := by omega
  rcases hk with rfl | rfl | rfl | rfl | rfl | rfl | hk
  all_goals
    first
      | (go_enter Try.func19, Try.ntmps19
         go_wp2
         go_ret
         exact ⟨rfl, hal⟩)
      | (have q0 : (kind == 0) = false := by rw [beq_eq_false_iff_ne]; omega
         have q1 : (kind == 1) = false := by rw [beq_eq_false_iff_ne]; omega
         have q2 : (kind == 2) = false := by rw [beq_eq_false_iff_ne]; omega
         have q3 : (kind == 3) = false := by rw [beq_eq_false_iff_ne]; omega
         have q4 : (kind == 4) = false := by rw [beq_eq_false_iff_ne]; omega
         have q5 : (kind == 5) = false := by rw [beq_eq_false_iff_ne]; omega
         have e : kindN kind = -1 := by
           unfold kindN
           rw [if_neg (by omega), if_neg (by omega), if_neg (by omega), if_neg (by omega)]
         rw [e]
         clear hk e
         go_enter Try.func19, Try.ntmps19
         go_wp2
         go_ret
         exact ⟨rfl, hal⟩)

set_option maxHeartbeats 2000000 in
set_option maxRecDepth 100000 in
theorem rdotsMay_any (o : O14) (q : Pq) (w : World) (hr : ORow w o q) (hs : Siz o) : Calls Try.prog 42 #[oV o q] w fun e w' => e = .returned (.bool (dotsB o.deps o.dots)) ∧ Below w.heap.size w w' := by
  obtain ⟨h, hh⟩ : ∃ h, w.heap.size = h := ⟨_, rfl⟩
  have H0 : Hid (OBox w h o q (w.alloc (.cells (oL o q).toArray 29)) ∧ (w.alloc (.cells (oL o q).toArray 29)).heap.size = h + 1) := obox_new hh hr _
  rw [hh]
  have hl := hs.dots
  clear hr hs
  obtain ⟨dn, ds, time, deps, kind, ty, idd, field, value, re, im, rn, rs, dots⟩ := o
  obtain ⟨po, pc, qo, qc⟩ := q
  simp only at hl
  simp only
  go_enter Try.func42, Try.ntmps42
  go_upto_region 1 with fail
  generalize hW : w.alloc (.cells (oL ⟨dn, ds, time, deps, kind, ty, idd, field, value, re, im, rn, rs, dots⟩ ⟨po, pc, qo, qc⟩).toArray 29) = w1 at H0 ⊢
  clear hW hh
  go_wp2
  go_loopg [3] dots.length (fun n iv wr => ∃ i : Nat, i + n = dots.length ∧ iv = .int .i64 i ∧ Hid (OBox w h ⟨dn, ds, time, deps, kind, ty, idd, field, value, re, im, rn, rs, dots⟩ ⟨po, pc, qo, qc⟩ wr ∧ ∀ j, j < i → stepD deps dots j = true))
  case atStart => exact ⟨0, by omega, rfl, H0.out.1, fun j hj => by omega⟩
  case round =>
    clear H0
    obtain ⟨i, hin, rfl, HJ⟩ := hrel
    obtain ⟨k, hk⟩ : ∃ k, wr.heap.size = k := ⟨_, rfl⟩
    have HK : Hid (wr.heap.size = k) := hk
    have hhk : h < k := by have := HJ.out.1.2.2.2; omega
    have hne : Nonempty (MW k wr) := MW.some hk
    have e3 : wr.cell? ⟨h, 3, none⟩ = some (.slice po deps.length pc) := HJ.out.1.1.at 3 rfl
    have e13 : wr.cell? ⟨h, 13, none⟩ = some (.slice qo dots.length qc) := HJ.out.1.1.at 13 rfl
    have g3 : ∀ r : MW k wr, r.w.cell? ⟨h, 3, none⟩ = some (.slice po deps.length pc) := MW.has HJ.out.1.1 hhk rfl
    have g13 : ∀ r : MW k wr, r.w.cell? ⟨h, 13, none⟩ = some (.slice qo dots.length qc) := MW.has HJ.out.1.1 hhk rfl
    by_cases hi : i < dots.length
    · obtain ⟨x, hx⟩ : ∃ x, dots[i]? = some x := ⟨_, List.getElem?_eq_getElem hi⟩
      obtain ⟨bk, off, rfl, hbk, hc⟩ := HJ.out.1.2.1.2 (by rw [flatD_len]; simp only; omega)
      have HX : Hid (dots.getD i (0, 0) = x) := by show dots.getD i (0, 0) = x; simp [List.getD, hx]
      obtain ⟨x1, x2⟩ := x
      have c0 : ∀ r : MW k wr, r.w.cell? ⟨bk, off + i * 2, none⟩ = some (.int .i64 x1) := MW.cell (hc _ _ (flatD_at dots i hx).1) (by omega)
      have c1 : ∀ r : MW k wr, r.w.cell? ⟨bk, off + i * 2 + 1, none⟩ = some (.int .i64 x2) := MW.cell (hc _ _ (flatD_at dots i hx).2) (by omega)
      have C1 : ∀ r : MW k wr, Calls Try.prog 43 #[.slice po deps.length pc, .agg #[.int .i64 x1, .int .i64 x2]] r.w fun e w' => e = .returned (.bool (hasB deps (x1, x2))) ∧ Below r.w.heap.size r.w w' := fun r => vrefHas_any po pc deps (x1, x2) r.w (HJ.out.1.2.1.1.later (HK.out.symm ▸ r.h.1))
      have hgo : Hid (stepD deps dots i = true → ∀ j, j < i + 1 → stepD deps dots j = true) := fun h j hj => by
        by_cases e : j = i
        · subst e; exact h
        · exact HJ.out.2 j (by omega)
      have hil : (i : Int) < (dots.length : Int) := by omega
      by_cases hb : hasB deps (x1, x2) = true
      · rw [hb] at C1
        by_cases h0 : 0 < i
        · obtain ⟨p, hp⟩ : ∃ p, i = p + 1 := ⟨i - 1, by omega⟩
          have hp1 : (i : Int) - 1 = (p : Int) := by omega
          have hpl : p < dots.length := by omega
          have hpl2 : (p : Int) < (dots.length : Int) := by omega
          have hw : IntKind.i64.wrap (p : Int) = (p : Int) := by rw [IntKind.wrap_i64]; omega
          obtain ⟨y, hy⟩ : ∃ y, dots[p]? = some y := ⟨_, List.getElem?_eq_getElem hpl⟩
          have HY : Hid (dots.getD (i - 1) (0, 0) = y) := by show dots.getD (i - 1) (0, 0) = y; rw [show i - 1 = p by omega]; simp [List.getD, hy]
          obtain ⟨y1, y2⟩ := y
          have d0 : ∀ r : MW k wr, r.w.cell? ⟨bk, off + p * 2, none⟩ = some (.int .i64 y1) := MW.cell (hc _ _ (flatD_at dots p hy).1) (by omega)
          have d1 : ∀ r : MW k wr, r.w.cell? ⟨bk, off + p * 2 + 1, none⟩ = some (.int .i64 y2) := MW.cell (hc _ _ (flatD_at dots p hy).2) (by omega)
          have hd0 : decide (0 < i) = true := by simpa using h0
          have hd1 : decide ((0 : Int) < (i : Int)) = true := by simpa using h0
          have C2 : ∀ W, Calls Try.prog 63 #[.agg #[.int .i64 y1, .int .i64 y2], .agg #[.int .i64 x1, .int .i64 x2]] W fun e w' => e = .returned (.bool (ltD (y1, y2) (x1, x2))) ∧ Below W.heap.size W w' := fun W => dotLess_any (y1, y2) (x1, x2) W
          clear hp hx hy hc
          cases hlt : ltD (y1, y2) (x1, x2) with
          | true =>
            rw [hlt] at C2
            go_wp2_with fail
            refine wp_region_mild HK.out (by kernel_rfl) (by kernel_rfl) ?_
            repeat (go_big_quiet_step ((first | (go_at_call 43; refine (C1 _).mono ?_; rintro e w2 ⟨rfl, b⟩; exact ⟨rfl, MW.later _ b⟩) | (go_at_call 63; refine (C2 _).mono ?_; rintro e w2 ⟨rfl, b⟩; exact ⟨rfl, MW.later _ b⟩))))
            refine wpQuiet_nil ?_
            intro _ hw'
            obtain ⟨rq, rfl⟩ := hw'
            go_wp2
            go_roundg (gk - 1)
            case measure => omega
            case rel => exact ⟨i + 1, by omega, by go_num, HJ.out.1.later (HK.out.symm ▸ rq.h.1), hgo.out (by unfold stepD; rw [HX.out, HY.out, hb, hlt]; simp)⟩
          | false =>
            rw [hlt] at C2
            go_wp2_with fail
            refine wp_region_mild HK.out (by kernel_rfl) (by kernel_rfl) ?_
            repeat (go_big_quiet_step ((first | (go_at_call 43; refine (C1 _).mono ?_; rintro e w2 ⟨rfl, b⟩; exact ⟨rfl, MW.later _ b⟩) | (go_at_call 63; refine (C2 _).mono ?_; rintro e w2 ⟨rfl, b⟩; exact ⟨rfl, MW.later _ b⟩))))
            refine wpQuiet_nil ?_
            intro _ hw'
            obtain ⟨rq, rfl⟩ := hw'
            go_wp2
            go_ret
            exact ⟨ret_bool (stepD_not (by unfold stepD; rw [HX.out, HY.out, hb, hlt]; simp; omega) hi).symm, (HJ.out.1.later (HK.out.symm ▸ rq.h.1)).2.2.1⟩
        · have hd0 : decide (0 < i) = false := by simpa using h0
          have hd1 : decide ((0 : Int) < (i : Int)) = false := by simpa using h0
          have C2 : True := trivial
          clear hx hc
          go_wp2_with fail
          refine wp_region_mild HK.out (by kernel_rfl) (by kernel_rfl) ?_
          repeat (go_big_quiet_step ((first | (go_at_call 43; refine (C1 _).mono ?_; rintro e w2 ⟨rfl, b⟩; exact ⟨rfl, MW.later _ b⟩) | (go_at_call 63; refine (C2 _).mono ?_; rintro e w2 ⟨rfl, b⟩; exact ⟨rfl, MW.later _ b⟩))))
          refine wpQuiet_nil ?_
          intro _ hw'
          obtain ⟨rq, rfl⟩ := hw'
          go_wp2
          go_roundg (gk - 1)
          case measure => omega
          case rel => exact ⟨i + 1, by omega, by go_num, HJ.out.1.later (HK.out.symm ▸ rq.h.1), hgo.out (by unfold stepD; rw [HX.out, hb]; simp; left; omega)⟩
      · replace hb : hasB deps (x1, x2) = false := by simpa using hb
        rw [hb] at C1
        have C2 : True := trivial
        clear hx hc
        go_wp2_with fail
        refine wp_region_mild HK.out (by kernel_rfl) (by kernel_rfl) ?_
        repeat (go_big_quiet_step ((first | (go_at_call 43; refine (C1 _).mono ?_; rintro e w2 ⟨rfl, b⟩; exact ⟨rfl, MW.later _ b⟩) | (go_at_call 63; refine (C2 _).mono ?_; rintro e w2 ⟨rfl, b⟩; exact ⟨rfl, MW.later _ b⟩))))
        refine wpQuiet_nil ?_
        intro _ hw'
        obtain ⟨rq, rfl⟩ := hw'
        go_wp2
        go_ret
        exact ⟨ret_bool (stepD_not (by unfold stepD; rw [HX.out, hb]; simp) hi).symm, (HJ.out.1.later (HK.out.symm ▸ rq.h.1)).2.2.1⟩
    · have hd : decide ((i : Int) < (dots.length : Int)) = false := by simp; omega
      have HA : Hid (dotsB deps dots = decide (dots.length ≤ 64)) := by
        show dotsB deps dots = _
        unfold dotsB
        have : (List.range dots.length).all (stepD deps dots) = true := by
          rw [List.all_eq_true]
          exact fun j hj => HJ.out.2 j (by have := List.mem_range.1 hj; omega)
        rw [this, Bool.and_true]
      clear g3 g13 hne
      by_cases h64 : dots.length ≤ 64
      · go_wp2
        go_ret
        exact ⟨ret_bool (by rw [HA.out]; simp; try omega), HJ.out.1.2.2.1⟩
      · go_wp2
        go_ret
        exact ⟨ret_bool (by rw [HA.out]; simp; try omega), HJ.out.1.2.2.1⟩

end Go.Proofs.Ytjfgccjdkflfoaa

