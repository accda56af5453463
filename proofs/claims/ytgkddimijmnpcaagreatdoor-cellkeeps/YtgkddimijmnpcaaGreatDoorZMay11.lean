/-
  Which operations may be: package op's own walks to May, by contracts.
-/
import Derived.Test.YtgkddimijmnpcaaGreatDoorZOp11
import Derived.Test.YtgkddimijmnpcaaGreatDoorZPack1
namespace Go.Proofs.YtgkddimijmnpcaaGreatDoor
open Go.RowKit
set_option linter.unusedVariables false
set_option linter.unusedSimpArgs false

/-- Where its two rows lie. -/
structure Pq where
  po : Option Addr
  pc : Nat
  qo : Option Addr
  qc : Nat

abbrev oL (o : O14) (q : Pq) : List Value := [.int .i64 o.dn, .int .i64 o.ds, .int .i64 o.time, .slice q.po o.deps.length q.pc, .int .i64 o.kind, .string o.type, .string o.id, .string o.field, .string o.value, .int .i64 o.re, .int .i64 o.im, .int .i64 o.rn, .int .i64 o.rs, .slice q.qo o.dots.length q.qc]
abbrev oV (o : O14) (q : Pq) : Value := .agg #[.int .i64 o.dn, .int .i64 o.ds, .int .i64 o.time, .slice q.po o.deps.length q.pc, .int .i64 o.kind, .string o.type, .string o.id, .string o.field, .string o.value, .int .i64 o.re, .int .i64 o.im, .int .i64 o.rn, .int .i64 o.rs, .slice q.qo o.dots.length q.qc]
/-- They lie there. -/
def ORow (w : World) (o : O14) (q : Pq) : Prop := FRow w q.po (flatI o.deps) ∧ FRow w q.qo (flatD o.dots)
theorem ORow.later {w w' : World} {o : O14} {q : Pq} (h : ORow w o q) (hb : Below w.heap.size w w') : ORow w' o q := ⟨h.1.later hb, h.2.later hb⟩
/-- It is no larger than what can be read. -/
structure Siz (o : O14) : Prop where
  deps : o.deps.length * 8 ≤ 140737488351232
  dots : o.dots.length * 16 ≤ 140737488351232
  type : o.type.size ≤ 140737488351232
  id : o.id.size ≤ 140737488351232
  field : o.field.size ≤ 140737488351232
  value : o.value.size ≤ 140737488351232

/-- It lies in a block of its own, and what else is said of it. -/
def OBox (w : World) (h : Nat) (o : O14) (q : Pq) (w1 : World) : Prop := Has w1 h (oL o q) ∧ ORow w1 o q ∧ Below h w w1 ∧ h + 1 ≤ w1.heap.size
theorem obox_new {w : World} {h : Nat} (hh : w.heap.size = h) {o : O14} {q : Pq} (hr : ORow w o q) (t : TypeId) : OBox w h o q (w.alloc (.cells (oL o q).toArray t)) ∧ (w.alloc (.cells (oL o q).toArray t)).heap.size = h + 1 := by
  subst hh
  have hal : Below w.heap.size w (w.alloc (.cells (oL o q).toArray t)) := (Below.refl _ _).alloc (Nat.le_refl _) _
  exact ⟨⟨has_new w (oL o q) _, hr.later hal, hal, by simp⟩, by simp⟩
theorem OBox.later {w w1 w2 : World} {h : Nat} {o : O14} {q : Pq} (H : OBox w h o q w1) (hb : Below w1.heap.size w1 w2) : OBox w h o q w2 := ⟨H.1.later hb, H.2.1.later hb, H.2.2.1.trans (hb.mono (by have := H.2.2.2; omega)), by have := H.2.2.2; have := hb.size; omega⟩
theorem OBox.all {w w1 : World} {h : Nat} {o : O14} {q : Pq} (H : OBox w h o q w1) (r : MW w1.heap.size w1) : OBox w h o q r.w := H.later r.h.1

theorem owithin_any (x : Int) (w : World) : Calls Tryz.prog 96 #[.int .i64 x] w fun e w' => e = .returned (.bool (winB x)) ∧ w' = w := by
  go_enter Tryz.func96, Tryz.ntmps96
  go_wp2
  all_goals (go_ret; exact ⟨ret_bool (by unfold winB; rw [Bool.eq_iff_iff]; simp; try omega), rfl⟩)

set_option maxHeartbeats 2000000 in
set_option maxRecDepth 100000 in
theorem when_any (o : O14) (q : Pq) (n : Int) (w : World) (hr : ORow w o q) : Calls Tryz.prog 50 #[oV o q, .int .i64 n] w fun e w' => e = .returned (.bool (whenB o n)) ∧ Below w.heap.size w w' := by
  obtain ⟨h, hh⟩ : ∃ h, w.heap.size = h := ⟨_, rfl⟩
  have H0 : Hid (OBox w h o q (w.alloc (.cells (oL o q).toArray 35)) ∧ (w.alloc (.cells (oL o q).toArray 35)).heap.size = h + 1) := obox_new hh hr _
  rw [hh]
  clear hr
  obtain ⟨dn, ds, time, deps, kind, ty, idd, field, value, re, im, rn, rs, dots⟩ := o

  have C1 : ∀ W, Calls Tryz.prog 94 #[.agg #[.int .i64 dn, .int .i64 ds], .int .i64 n] W fun e w' => e = .returned (.bool (mayB dn ds n)) ∧ Below W.heap.size W w' := fun W => may_any dn ds n W
  cases h1 : mayB dn ds n with
  | false =>
    rw [h1] at C1
    go_enter Tryz.func50, Tryz.ntmps50
    go_wp2_with fail
    generalize hW : w.alloc (.cells (oL ⟨dn, ds, time, deps, kind, ty, idd, field, value, re, im, rn, rs, dots⟩ q).toArray 35) = w1 at H0 ⊢
    clear hW hh
    obtain ⟨g0, g1, g2, g3, g4, g5, g6, g7, g8, g9, g10, g11, g12, g13⟩ := (show Has w1 h (oL ⟨dn, ds, time, deps, kind, ty, idd, field, value, re, im, rn, rs, dots⟩ q) from H0.out.1.1).g14 (B := h + 1) (Nat.lt_succ_self _)
    have hne : Nonempty (MW (h + 1) w1) := MW.some H0.out.2
    refine wp_region_mild H0.out.2 (by kernel_rfl) (by kernel_rfl) ?_
    repeat (go_big_quiet_step ((first | (go_at_call 94; refine (C1 _).mono ?_; rintro e w2 ⟨rfl, b⟩; exact ⟨rfl, MW.later _ b⟩))))
    refine wpQuiet_nil ?_
    intro _ hw'
    obtain ⟨rq, rfl⟩ := hw'
    go_wp2
    go_ret
    exact ⟨ret_bool (by unfold whenB; simp [h1]), (H0.out.1.later (H0.out.2.symm ▸ rq.h.1)).2.2.1⟩
  | true =>
    rw [h1] at C1
    by_cases ht : 1 ≤ time
    · have ht1 : decide ((1 : Int) ≤ time) = true := by simpa using ht
      by_cases ht2 : time ≤ 16777215
      · have ht3 : decide (time ≤ (16777215 : Int)) = true := by simpa using ht2
        cases h2 : vecB deps n with
        | false =>
          go_enter Tryz.func50, Tryz.ntmps50
          go_wp2_with fail
          generalize hW : w.alloc (.cells (oL ⟨dn, ds, time, deps, kind, ty, idd, field, value, re, im, rn, rs, dots⟩ q).toArray 35) = w1 at H0 ⊢
          clear hW hh
          obtain ⟨g0, g1, g2, g3, g4, g5, g6, g7, g8, g9, g10, g11, g12, g13⟩ := (show Has w1 h (oL ⟨dn, ds, time, deps, kind, ty, idd, field, value, re, im, rn, rs, dots⟩ q) from H0.out.1.1).g14 (B := h + 1) (Nat.lt_succ_self _)
          have hne : Nonempty (MW (h + 1) w1) := MW.some H0.out.2
          have C2 : ∀ r : MW (h + 1) w1, Calls Tryz.prog 41 #[.slice q.po deps.length q.pc, .int .i64 n] r.w fun e w' => e = .returned (.bool (vecB deps n)) ∧ w' = r.w := fun r => vmay_any q.po q.pc deps n r.w (H0.out.1.2.1.1.later (H0.out.2.symm ▸ r.h.1))
          rw [h2] at C2
          refine wp_region_mild H0.out.2 (by kernel_rfl) (by kernel_rfl) ?_
          repeat (go_big_quiet_step ((first | (go_at_call 94; refine (C1 _).mono ?_; rintro e w2 ⟨rfl, b⟩; exact ⟨rfl, MW.later _ b⟩) | (go_at_call 41; refine (C2 _).mono ?_; rintro e w2 ⟨rfl, b⟩; exact ⟨rfl, MW.same _ b⟩))))
          refine wpQuiet_nil ?_
          intro _ hw'
          obtain ⟨rq, rfl⟩ := hw'
          go_wp2
          go_ret
          exact ⟨ret_bool (by unfold whenB; simp [h1, h2]), (H0.out.1.later (H0.out.2.symm ▸ rq.h.1)).2.2.1⟩
        | true =>
          have hv := vec_mem h2
          have hb : 0 ≤ dn ∧ dn < deps.length ∧ 1 ≤ ds ∧ ds ≤ 1048575 := by
            unfold mayB at h1
            have := of_decide_eq_true h1
            omega
          obtain ⟨hb0, hb1, hb2, hb3⟩ := hb
          obtain ⟨j, rfl⟩ : ∃ j : Nat, dn = (j : Int) := ⟨dn.toNat, by omega⟩
          have hj : j < deps.length := by omega
          have hw : IntKind.i64.wrap (ds - 1) = ds - 1 := by rw [IntKind.wrap_i64]; omega
          obtain ⟨x, hx⟩ : ∃ x, deps.getD j 0 = x := ⟨_, rfl⟩
          have hxs : deps[j]? = some x := by rw [← hx]; simp [List.getD, List.getElem?_eq_getElem hj]
          go_enter Tryz.func50, Tryz.ntmps50
          go_wp2_with fail
          generalize hW : w.alloc (.cells (oL ⟨(j : Int), ds, time, deps, kind, ty, idd, field, value, re, im, rn, rs, dots⟩ q).toArray 35) = w1 at H0 ⊢
          clear hW hh
          obtain ⟨g0, g1, g2, g3, g4, g5, g6, g7, g8, g9, g10, g11, g12, g13⟩ := (show Has w1 h (oL ⟨(j : Int), ds, time, deps, kind, ty, idd, field, value, re, im, rn, rs, dots⟩ q) from H0.out.1.1).g14 (B := h + 1) (Nat.lt_succ_self _)
          have hne : Nonempty (MW (h + 1) w1) := MW.some H0.out.2
          have C2 : ∀ r : MW (h + 1) w1, Calls Tryz.prog 41 #[.slice q.po deps.length q.pc, .int .i64 n] r.w fun e w' => e = .returned (.bool (vecB deps n)) ∧ w' = r.w := fun r => vmay_any q.po q.pc deps n r.w (H0.out.1.2.1.1.later (H0.out.2.symm ▸ r.h.1))
          rw [h2] at C2
          obtain ⟨bk, off, hpo, hbk, hc⟩ := H0.out.1.2.1.1 (by rw [flatI_len]; simp only; omega)
          have c0 : ∀ r : MW (h + 1) w1, r.w.cell? ⟨bk, off + j, none⟩ = some (.int .i64 x) := fun r => r.cell (hc j _ (by simp [flatI, hxs])) (by rw [← H0.out.2]; exact hbk)
          have hpo : q.po = some ⟨bk, off, none⟩ := hpo
          rw [hpo] at g3 C2
          refine wp_region_mild H0.out.2 (by kernel_rfl) (by kernel_rfl) ?_
          repeat (go_big_quiet_step ((first | (go_at_call 94; refine (C1 _).mono ?_; rintro e w2 ⟨rfl, b⟩; exact ⟨rfl, MW.later _ b⟩) | (go_at_call 41; refine (C2 _).mono ?_; rintro e w2 ⟨rfl, b⟩; exact ⟨rfl, MW.same _ b⟩))))
          refine wpQuiet_nil ?_
          intro _ hw'
          obtain ⟨rq, rfl⟩ := hw'
          go_wp2
          go_ret
          exact ⟨ret_bool (by have e : decide (1 ≤ time ∧ time ≤ 16777215) = true := (by simp; omega); unfold whenB; simp only [h1, h2, e, Int.toNat_natCast, hx, Bool.true_and]; rw [Bool.eq_iff_iff]; simp), (H0.out.1.later (H0.out.2.symm ▸ rq.h.1)).2.2.1⟩
      · have ht3 : decide (time ≤ (16777215 : Int)) = false := by simpa using ht2
        go_enter Tryz.func50, Tryz.ntmps50
        go_wp2_with fail
        generalize hW : w.alloc (.cells (oL ⟨dn, ds, time, deps, kind, ty, idd, field, value, re, im, rn, rs, dots⟩ q).toArray 35) = w1 at H0 ⊢
        clear hW hh
        obtain ⟨g0, g1, g2, g3, g4, g5, g6, g7, g8, g9, g10, g11, g12, g13⟩ := (show Has w1 h (oL ⟨dn, ds, time, deps, kind, ty, idd, field, value, re, im, rn, rs, dots⟩ q) from H0.out.1.1).g14 (B := h + 1) (Nat.lt_succ_self _)
        have hne : Nonempty (MW (h + 1) w1) := MW.some H0.out.2
        refine wp_region_mild H0.out.2 (by kernel_rfl) (by kernel_rfl) ?_
        repeat (go_big_quiet_step ((first | (go_at_call 94; refine (C1 _).mono ?_; rintro e w2 ⟨rfl, b⟩; exact ⟨rfl, MW.later _ b⟩))))
        refine wpQuiet_nil ?_
        intro _ hw'
        obtain ⟨rq, rfl⟩ := hw'
        go_wp2
        go_ret
        exact ⟨ret_bool (by have e : decide (1 ≤ time ∧ time ≤ 16777215) = false := (by simp; omega); unfold whenB; simp only [e]; simp), (H0.out.1.later (H0.out.2.symm ▸ rq.h.1)).2.2.1⟩
    · have ht1 : decide ((1 : Int) ≤ time) = false := by simpa using ht
      go_enter Tryz.func50, Tryz.ntmps50
      go_wp2_with fail
      generalize hW : w.alloc (.cells (oL ⟨dn, ds, time, deps, kind, ty, idd, field, value, re, im, rn, rs, dots⟩ q).toArray 35) = w1 at H0 ⊢
      clear hW hh
      obtain ⟨g0, g1, g2, g3, g4, g5, g6, g7, g8, g9, g10, g11, g12, g13⟩ := (show Has w1 h (oL ⟨dn, ds, time, deps, kind, ty, idd, field, value, re, im, rn, rs, dots⟩ q) from H0.out.1.1).g14 (B := h + 1) (Nat.lt_succ_self _)
      have hne : Nonempty (MW (h + 1) w1) := MW.some H0.out.2
      refine wp_region_mild H0.out.2 (by kernel_rfl) (by kernel_rfl) ?_
      repeat (go_big_quiet_step ((first | (go_at_call 94; refine (C1 _).mono ?_; rintro e w2 ⟨rfl, b⟩; exact ⟨rfl, MW.later _ b⟩))))
      refine wpQuiet_nil ?_
      intro _ hw'
      obtain ⟨rq, rfl⟩ := hw'
      go_wp2
      go_ret
      exact ⟨ret_bool (by have e : decide (1 ≤ time ∧ time ≤ 16777215) = false := (by simp; omega); unfold whenB; simp only [e]; simp), (H0.out.1.later (H0.out.2.symm ▸ rq.h.1)).2.2.1⟩

set_option maxHeartbeats 1000000 in
set_option maxRecDepth 100000 in
theorem where_any (o : O14) (q : Pq) (w : World) (hr : ORow w o q) (hs : Siz o) : Calls Tryz.prog 51 #[oV o q] w fun e w' => e = .returned (.bool (whereB o)) ∧ Below w.heap.size w w' := by
  have hs1 := hs.type
  have hs2 := hs.field
  have hs3 := hs.id
  obtain ⟨dn, ds, time, deps, kind, ty, idd, field, value, re, im, rn, rs, dots⟩ := o
  simp only at hs1 hs2 hs3
  have hal : ∀ x, Below w.heap.size w (w.alloc x) := fun x => (Below.refl _ _).alloc (Nat.le_refl _) _
  clear hs hr
  cases h1 : nameB ty with
  | false =>
    go_enter Tryz.func51, Tryz.ntmps51
    go_wp2_with (go_at_call 95; refine (nmay_any _ _ (by unfold maxLen; omega)).mono ?_; rintro e w2 ⟨rfl, hw0⟩; have hw1 := hw0.symm; clear hw0; subst hw1)
    go_ret
    exact ⟨ret_bool (by unfold whereB; simp [h1]), hal _⟩
  | true =>
    cases h2 : nameB field with
    | false =>
      go_enter Tryz.func51, Tryz.ntmps51
      go_wp2_with (go_at_call 95; refine (nmay_any _ _ (by unfold maxLen; omega)).mono ?_; rintro e w2 ⟨rfl, hw0⟩; have hw1 := hw0.symm; clear hw0; subst hw1)
      go_ret
      exact ⟨ret_bool (by unfold whereB; simp [h1, h2]), hal _⟩
    | true =>
      by_cases h3 : idd.size = 0
      · obtain rfl := none_of h3
        go_enter Tryz.func51, Tryz.ntmps51
        go_wp2_with (go_at_call 95; refine (nmay_any _ _ (by unfold maxLen; omega)).mono ?_; rintro e w2 ⟨rfl, hw0⟩; have hw1 := hw0.symm; clear hw0; subst hw1)
        go_ret
        exact ⟨ret_bool (by have e : decide (1 ≤ (⟨#[]⟩ : ByteArray).size ∧ (⟨#[]⟩ : ByteArray).size ≤ 256) = false := rfl; unfold whereB; simp only [e]; simp), hal _⟩
      · have hne := full_of h3
        by_cases h4 : idd.size ≤ 256
        · go_enter Tryz.func51, Tryz.ntmps51
          go_wp2_with (go_at_call 95; refine (nmay_any _ _ (by unfold maxLen; omega)).mono ?_; rintro e w2 ⟨rfl, hw0⟩; have hw1 := hw0.symm; clear hw0; subst hw1)
          go_ret
          exact ⟨ret_bool (by have e : decide (1 ≤ idd.size ∧ idd.size ≤ 256) = true := (by simp; omega); unfold whereB; simp only [h1, h2, e]; simp; try omega), hal _⟩
        · go_enter Tryz.func51, Tryz.ntmps51
          go_wp2_with (go_at_call 95; refine (nmay_any _ _ (by unfold maxLen; omega)).mono ?_; rintro e w2 ⟨rfl, hw0⟩; have hw1 := hw0.symm; clear hw0; subst hw1)
          go_ret
          exact ⟨ret_bool (by have e : decide (1 ≤ idd.size ∧ idd.size ≤ 256) = false := (by simp; omega); unfold whereB; simp only [h1, h2, e]; simp; try omega), hal _⟩

theorem stepD_last {deps : List Int} {l : List D2} {i : Nat} (h : ∀ j, j < i → stepD deps l j = true) (hl : ¬ i < l.length) (h64 : l.length ≤ 64) : dotsB deps l = true := by
  unfold dotsB
  simp only [Bool.and_eq_true, decide_eq_true_eq, List.all_eq_true]
  exact ⟨h64, fun j hj => h j (by have := List.mem_range.1 hj; omega)⟩
theorem stepD_not {deps : List Int} {l : List D2} {i : Nat} (h : stepD deps l i = false) (hl : i < l.length) : dotsB deps l = false := by
  unfold dotsB
  simp only [Bool.and_eq_false_iff]
  exact Or.inr (by rw [List.all_eq_false]; exact ⟨i, List.mem_range.2 hl, by rw [h]; simp⟩)

set_option maxHeartbeats 2000000 in
set_option maxRecDepth 100000 in
theorem mdots_any (bo : Option Addr) (cb : Nat) (l : List D2) (ao : Option Addr) (ca : Nat) (deps : List Int) (w : World) (hr : FRow w bo (flatD l)) (hd : FRow w ao (flatI deps)) (hl : l.length ≤ maxLen) :
    Calls Tryz.prog 97 #[.slice bo l.length cb, .slice ao deps.length ca] w fun e w' => e = .returned (.bool (dotsB deps l)) ∧ Below w.heap.size w w' := by
  unfold maxLen at hl
  have HR : Hid (FRow w bo (flatD l)) := hr
  have HD : Hid (FRow w ao (flatI deps)) := hd
  clear hr hd
  by_cases h64 : l.length ≤ 64
  · go_enter Tryz.func97, Tryz.ntmps97
    go_wp2
    go_loopg [5, 6, 12] l.length (fun n _ _ iv wr => ∃ i : Nat, i + n = l.length ∧ iv = .int .i64 i ∧ Below w.heap.size w wr ∧ Hid (∀ j, j < i → stepD deps l j = true))
    case atStart => exact ⟨0, by omega, rfl, Below.refl _ _, fun j hj => by omega⟩
    case round =>
      obtain ⟨i, hin, rfl, hbel, HJ⟩ := hrel
      have HB : Hid (Below w.heap.size w wr) := hbel
      clear hbel
      by_cases hi : i < l.length
      · obtain ⟨x, hx⟩ : ∃ x, l[i]? = some x := ⟨_, List.getElem?_eq_getElem hi⟩
        obtain ⟨bk, off, rfl, hbk, hc⟩ := HR.out (by rw [flatD_len]; omega)
        have HX : Hid (l.getD i (0, 0) = x) := by show l.getD i (0, 0) = x; simp [List.getD, hx]
        obtain ⟨x1, x2⟩ := x
        have c0 := (HB.out.cell (p := ⟨bk, off + i * 2, none⟩) (by exact hbk)).trans (hc _ _ (flatD_at l i hx).1)
        have c1 := (HB.out.cell (p := ⟨bk, off + i * 2 + 1, none⟩) (by exact hbk)).trans (hc _ _ (flatD_at l i hx).2)
        obtain ⟨k, hk⟩ : ∃ k, wr.heap.size = k := ⟨_, rfl⟩
        have hbk2 : bk < k := by have := HB.out.size; omega
        have C1 : ∀ W, Below w.heap.size w W → Calls Tryz.prog 125 #[.slice ao deps.length ca, .agg #[.int .i64 x1, .int .i64 x2]] W fun e w' => e = .returned (.bool (hasB deps (x1, x2))) ∧ Below W.heap.size W w' := fun W hW => vhas_any ao ca deps (x1, x2) W (fun h0 => by
          obtain ⟨b, o, e, h1, h2⟩ := HD.out h0
          exact ⟨b, o, e, Nat.lt_of_lt_of_le h1 hW.size, fun i u hu => (hW.cell (p := ⟨b, o + i, none⟩) (by exact h1)).trans (h2 i u hu)⟩)
        have hgo : Hid (stepD deps l i = true → ∀ j, j < i + 1 → stepD deps l j = true) := fun h j hj => by
          by_cases e : j = i
          · subst e; exact h
          · exact HJ.out j (by omega)
        have F0 : Hid (Has (wr.alloc (.cells #[.int .i64 x1, .int .i64 x2] 32)) k [.int .i64 x1, .int .i64 x2] ∧ Below w.heap.size w (wr.alloc (.cells #[.int .i64 x1, .int .i64 x2] 32)) ∧ (wr.alloc (.cells #[.int .i64 x1, .int .i64 x2] 32)).heap.size = k + 1 ∧ Below k wr (wr.alloc (.cells #[.int .i64 x1, .int .i64 x2] 32))) := by
          subst hk
          have hal : Below wr.heap.size wr (wr.alloc (.cells #[.int .i64 x1, .int .i64 x2] 32)) := (Below.refl _ _).alloc (Nat.le_refl _) _
          exact ⟨has_new wr [.int .i64 x1, .int .i64 x2] _, HB.out.trans (hal.mono HB.out.size), by simp, hal⟩
        have hi64 : i < 64 := by omega
        by_cases hb : hasB deps (x1, x2) = true
        · by_cases h0 : 0 < i
          · obtain ⟨p, hp⟩ : ∃ p, i = p + 1 := ⟨i - 1, by omega⟩
            have hp1 : (i : Int) - 1 = (p : Int) := by omega
            have hpl : p < l.length := by omega
            have hpl2 : (p : Int) < (l.length : Int) := by omega
            have hw : IntKind.i64.wrap (p : Int) = (p : Int) := by rw [IntKind.wrap_i64]; omega
            obtain ⟨y, hy⟩ : ∃ y, l[p]? = some y := ⟨_, List.getElem?_eq_getElem hpl⟩
            have HY : Hid (l.getD (i - 1) (0, 0) = y) := by show l.getD (i - 1) (0, 0) = y; rw [show i - 1 = p by omega]; simp [List.getD, hy]
            obtain ⟨y1, y2⟩ := y
            have d0 := (HB.out.cell (p := ⟨bk, off + p * 2, none⟩) (by exact hbk)).trans (hc _ _ (flatD_at l p hy).1)
            have d1 := (HB.out.cell (p := ⟨bk, off + p * 2 + 1, none⟩) (by exact hbk)).trans (hc _ _ (flatD_at l p hy).2)
            have HP : Hid (i = p + 1) := hp
            have hd0 : decide (0 < i) = true := by simpa using h0
            have hd1 : decide ((0 : Int) < (i : Int)) = true := by simpa using h0
            have C2 : ∀ W, Calls Tryz.prog 108 #[.agg #[.int .i64 y1, .int .i64 y2], .agg #[.int .i64 x1, .int .i64 x2]] W fun e w' => e = .returned (.int .i64 (cmpD (y1, y2) (x1, x2))) ∧ Below W.heap.size W w' := fun W => odots_below (y1, y2) (x1, x2) W
            obtain ⟨z, hz⟩ : ∃ z, cmpD (y1, y2) (x1, x2) = z := ⟨_, rfl⟩
            have HZ : Hid (z < 0 ↔ ltD (y1, y2) (x1, x2) = true) := by rw [← hz]; exact cmpD_neg _ _
            rw [hz] at C2
            clear hp hx hy hc hz
            by_cases hz0 : 0 ≤ z
            · have hz1 : decide (0 ≤ z) = true := by simpa using hz0
              go_wp2_with fail
              generalize hW : wr.alloc (.cells #[.int .i64 x1, .int .i64 x2] 32) = w1 at F0 ⊢
              clear hW
              have hne : Nonempty (MW (k + 1) w1) := MW.some F0.out.2.2.1
              have e0 : ∀ r : MW (k + 1) w1, r.w.cell? ⟨k, 0, none⟩ = some (.int .i64 x1) := MW.has F0.out.1 (Nat.lt_succ_self _) rfl
              have e1 : ∀ r : MW (k + 1) w1, r.w.cell? ⟨k, 1, none⟩ = some (.int .i64 x2) := MW.has F0.out.1 (Nat.lt_succ_self _) rfl
              have f0 : ∀ r : MW (k + 1) w1, r.w.cell? ⟨bk, off + p * 2, none⟩ = some (.int .i64 y1) := MW.cell ((F0.out.2.2.2.cell (p := ⟨bk, off + p * 2, none⟩) (by exact hbk2)).trans d0) (by omega)
              have f1 : ∀ r : MW (k + 1) w1, r.w.cell? ⟨bk, off + p * 2 + 1, none⟩ = some (.int .i64 y2) := MW.cell ((F0.out.2.2.2.cell (p := ⟨bk, off + p * 2 + 1, none⟩) (by exact hbk2)).trans d1) (by omega)
              have C3 : ∀ r : MW (k + 1) w1, Calls Tryz.prog 125 #[.slice ao deps.length ca, .agg #[.int .i64 x1, .int .i64 x2]] r.w fun e w' => e = .returned (.bool true) ∧ Below r.w.heap.size r.w w' := fun r => hb ▸ C1 r.w (F0.out.2.1.trans (r.h.1.mono (by have := HB.out.size; have := F0.out.2.2.2.size; omega)))
              clear C1
              refine wp_region_mild F0.out.2.2.1 (by kernel_rfl) (by kernel_rfl) ?_
              repeat (go_big_quiet_step ((first | (go_at_call 125; refine (C3 _).mono ?_; rintro e w2 ⟨rfl, b⟩; exact ⟨rfl, MW.later _ b⟩) | (go_at_call 108; refine (C2 _).mono ?_; rintro e w2 ⟨rfl, b⟩; exact ⟨rfl, MW.later _ b⟩))))
              refine wpQuiet_nil ?_
              intro _ hw'
              obtain ⟨rq, rfl⟩ := hw'
              go_wp2
              go_ret
              exact ⟨ret_bool (stepD_not (by unfold stepD; rw [HX.out, HY.out, hb]; have e : ltD (y1, y2) (x1, x2) = false := (by rw [Bool.eq_false_iff]; intro h; have := HZ.out.2 h; omega); rw [e]; simp; omega) hi).symm, (F0.out.2.1.trans (rq.h.1.mono (by have := HB.out.size; have := F0.out.2.2.2.size; omega)))⟩
            · have hz1 : decide (0 ≤ z) = false := by simpa using hz0
              go_wp2_with fail
              generalize hW : wr.alloc (.cells #[.int .i64 x1, .int .i64 x2] 32) = w1 at F0 ⊢
              clear hW
              have hne : Nonempty (MW (k + 1) w1) := MW.some F0.out.2.2.1
              have e0 : ∀ r : MW (k + 1) w1, r.w.cell? ⟨k, 0, none⟩ = some (.int .i64 x1) := MW.has F0.out.1 (Nat.lt_succ_self _) rfl
              have e1 : ∀ r : MW (k + 1) w1, r.w.cell? ⟨k, 1, none⟩ = some (.int .i64 x2) := MW.has F0.out.1 (Nat.lt_succ_self _) rfl
              have f0 : ∀ r : MW (k + 1) w1, r.w.cell? ⟨bk, off + p * 2, none⟩ = some (.int .i64 y1) := MW.cell ((F0.out.2.2.2.cell (p := ⟨bk, off + p * 2, none⟩) (by exact hbk2)).trans d0) (by omega)
              have f1 : ∀ r : MW (k + 1) w1, r.w.cell? ⟨bk, off + p * 2 + 1, none⟩ = some (.int .i64 y2) := MW.cell ((F0.out.2.2.2.cell (p := ⟨bk, off + p * 2 + 1, none⟩) (by exact hbk2)).trans d1) (by omega)
              have C3 : ∀ r : MW (k + 1) w1, Calls Tryz.prog 125 #[.slice ao deps.length ca, .agg #[.int .i64 x1, .int .i64 x2]] r.w fun e w' => e = .returned (.bool true) ∧ Below r.w.heap.size r.w w' := fun r => hb ▸ C1 r.w (F0.out.2.1.trans (r.h.1.mono (by have := HB.out.size; have := F0.out.2.2.2.size; omega)))
              clear C1
              refine wp_region_mild F0.out.2.2.1 (by kernel_rfl) (by kernel_rfl) ?_
              repeat (go_big_quiet_step ((first | (go_at_call 125; refine (C3 _).mono ?_; rintro e w2 ⟨rfl, b⟩; exact ⟨rfl, MW.later _ b⟩) | (go_at_call 108; refine (C2 _).mono ?_; rintro e w2 ⟨rfl, b⟩; exact ⟨rfl, MW.later _ b⟩))))
              refine wpQuiet_nil ?_
              intro _ hw'
              obtain ⟨rq, rfl⟩ := hw'
              go_wp2
              go_roundg (gk - 1)
              case measure => omega
              case rel => exact ⟨i + 1, by omega, by go_num, (F0.out.2.1.trans (rq.h.1.mono (by have := HB.out.size; have := F0.out.2.2.2.size; omega))), hgo.out (by unfold stepD; rw [HX.out, HY.out, hb, HZ.out.1 (by omega)]; simp)⟩
          · have hd0 : decide (0 < i) = false := by simpa using h0
            have hd1 : decide ((0 : Int) < (i : Int)) = false := by simpa using h0
            have C2 : True := trivial
            clear hx hc
            go_wp2_with fail
            generalize hW : wr.alloc (.cells #[.int .i64 x1, .int .i64 x2] 32) = w1 at F0 ⊢
            clear hW
            have hne : Nonempty (MW (k + 1) w1) := MW.some F0.out.2.2.1
            have e0 : ∀ r : MW (k + 1) w1, r.w.cell? ⟨k, 0, none⟩ = some (.int .i64 x1) := MW.has F0.out.1 (Nat.lt_succ_self _) rfl
            have e1 : ∀ r : MW (k + 1) w1, r.w.cell? ⟨k, 1, none⟩ = some (.int .i64 x2) := MW.has F0.out.1 (Nat.lt_succ_self _) rfl

            have C3 : ∀ r : MW (k + 1) w1, Calls Tryz.prog 125 #[.slice ao deps.length ca, .agg #[.int .i64 x1, .int .i64 x2]] r.w fun e w' => e = .returned (.bool true) ∧ Below r.w.heap.size r.w w' := fun r => hb ▸ C1 r.w (F0.out.2.1.trans (r.h.1.mono (by have := HB.out.size; have := F0.out.2.2.2.size; omega)))
            clear C1
            refine wp_region_mild F0.out.2.2.1 (by kernel_rfl) (by kernel_rfl) ?_
            repeat (go_big_quiet_step ((first | (go_at_call 125; refine (C3 _).mono ?_; rintro e w2 ⟨rfl, b⟩; exact ⟨rfl, MW.later _ b⟩) | (go_at_call 108; refine (C2 _).mono ?_; rintro e w2 ⟨rfl, b⟩; exact ⟨rfl, MW.later _ b⟩))))
            refine wpQuiet_nil ?_
            intro _ hw'
            obtain ⟨rq, rfl⟩ := hw'
            go_wp2
            go_roundg (gk - 1)
            case measure => omega
            case rel => exact ⟨i + 1, by omega, by go_num, (F0.out.2.1.trans (rq.h.1.mono (by have := HB.out.size; have := F0.out.2.2.2.size; omega))), hgo.out (by unfold stepD; rw [HX.out, hb]; simp; left; omega)⟩
        · replace hb : hasB deps (x1, x2) = false := by simpa using hb
          have C2 : True := trivial
          clear hx hc
          go_wp2_with fail
          generalize hW : wr.alloc (.cells #[.int .i64 x1, .int .i64 x2] 32) = w1 at F0 ⊢
          clear hW
          have hne : Nonempty (MW (k + 1) w1) := MW.some F0.out.2.2.1
          have e0 : ∀ r : MW (k + 1) w1, r.w.cell? ⟨k, 0, none⟩ = some (.int .i64 x1) := MW.has F0.out.1 (Nat.lt_succ_self _) rfl
          have e1 : ∀ r : MW (k + 1) w1, r.w.cell? ⟨k, 1, none⟩ = some (.int .i64 x2) := MW.has F0.out.1 (Nat.lt_succ_self _) rfl

          have C3 : ∀ r : MW (k + 1) w1, Calls Tryz.prog 125 #[.slice ao deps.length ca, .agg #[.int .i64 x1, .int .i64 x2]] r.w fun e w' => e = .returned (.bool false) ∧ Below r.w.heap.size r.w w' := fun r => hb ▸ C1 r.w (F0.out.2.1.trans (r.h.1.mono (by have := HB.out.size; have := F0.out.2.2.2.size; omega)))
          clear C1
          refine wp_region_mild F0.out.2.2.1 (by kernel_rfl) (by kernel_rfl) ?_
          repeat (go_big_quiet_step ((first | (go_at_call 125; refine (C3 _).mono ?_; rintro e w2 ⟨rfl, b⟩; exact ⟨rfl, MW.later _ b⟩) | (go_at_call 108; refine (C2 _).mono ?_; rintro e w2 ⟨rfl, b⟩; exact ⟨rfl, MW.later _ b⟩))))
          refine wpQuiet_nil ?_
          intro _ hw'
          obtain ⟨rq, rfl⟩ := hw'
          go_wp2
          go_ret
          exact ⟨ret_bool (stepD_not (by unfold stepD; rw [HX.out, hb]; simp) hi).symm, (F0.out.2.1.trans (rq.h.1.mono (by have := HB.out.size; have := F0.out.2.2.2.size; omega)))⟩
      · have hd : decide ((i : Int) < (l.length : Int)) = false := by simp; omega
        go_wp2
        go_ret
        exact ⟨ret_bool (stepD_last HJ.out hi h64).symm, HB.out⟩
  · go_enter Tryz.func97, Tryz.ntmps97
    go_wp2
    go_ret
    exact ⟨ret_bool (by unfold dotsB; simp [h64]), Below.refl _ _⟩


end Go.Proofs.YtgkddimijmnpcaaGreatDoor

