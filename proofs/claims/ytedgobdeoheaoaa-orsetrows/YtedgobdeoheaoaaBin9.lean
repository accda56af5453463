/-
  slices.BinarySearchFunc at a row of dots that stands by order.Dots; the closure of Drop.
-/
import Derived.Test.YtedgobdeoheaoaaFind9
import Derived.Test.YtedgobdeoheaoaaTakes
namespace Go.Proofs.Ytedgobdeoheaoaa
open Go.RowKit Go.Shelf
set_option linter.unusedVariables false
set_option linter.unusedSimpArgs false

/-- No later one stands ahead of an earlier one. -/
def Up (l : List D2) : Prop := ∀ (i j : Nat) x y, i < j → l[i]? = some x → l[j]? = some y → ltD y x = false

theorem up_mono {l : List D2} (h : Up l) (t : D2) {i j : Nat} {x y : D2} (hij : i ≤ j) (hx : l[i]? = some x) (hy : l[j]? = some y) (hlt : ltD y t = true) : ltD x t = true := by
  by_cases e : i = j
  · subst e
    rw [hx] at hy
    simp only [Option.some.injEq] at hy
    subst hy
    exact hlt
  · have := h i j x y (by omega) hx hy
    simp only [ltD, decide_eq_true_eq, decide_eq_false_iff_not] at *
    omega

/-- What a comparison keeps: an element, the target in its box. -/
abbrev HeldB (w0 : World) (h bk o : Nat) (x t : D2) (W : World) : Prop :=
  Below h w0 W ∧ h < W.heap.size ∧ W.cell? ⟨bk, o, none⟩ = some (.int .i64 x.1) ∧ W.cell? ⟨bk, o + 1, none⟩ = some (.int .i64 x.2) ∧ W.cell? ⟨h, 0, none⟩ = some (.int .i64 t.1) ∧ W.cell? ⟨h, 1, none⟩ = some (.int .i64 t.2)

theorem heldB_later {w0 : World} {h bk o : Nat} {x t : D2} {W W2 : World} (hbk : bk < h) (hb : Below W.heap.size W W2) (H : HeldB w0 h bk o x t W) : HeldB w0 h bk o x t W2 := by
  obtain ⟨h0, hn, h1, h2, h3, h4⟩ := H
  have hs := hb.size
  refine ⟨h0.trans (hb.mono (by omega)), by omega, ?_, ?_, ?_, ?_⟩ <;> (rw [hb.cell (by simp; omega)]; assumption)

theorem ret_two {x : Int} {a b : Bool} (h : b = a) : Ending.returned (.tuple #[.int .i64 x, .bool a]) = .returned (.tuple #[.int .i64 x, .bool b]) := by rw [h]

/-- The target in its box. -/
def Box2 (w0 : World) (h : Nat) (t : D2) (W : World) : Prop := Below h w0 W ∧ h < W.heap.size ∧ W.cell? ⟨h, 0, none⟩ = some (.int .i64 t.1) ∧ W.cell? ⟨h, 1, none⟩ = some (.int .i64 t.2)

theorem HeldB.box {w0 : World} {h bk o : Nat} {x t : D2} {W : World} (H : HeldB w0 h bk o x t W) : Box2 w0 h t W := ⟨H.1, H.2.1, H.2.2.2.2.1, H.2.2.2.2.2⟩

set_option maxHeartbeats 2000000 in
set_option maxRecDepth 100000 in
theorem bsearch_any (t : D2) (ao : Option Addr) (ca : Nat) (l : List D2) (w : World) (hr : FRow w ao (flatD l)) (hl : l.length * 16 ≤ 140737488355328) (hu : Up l) :
    Calls Try.prog 42 #[.slice ao l.length ca, dv t, .func (.func 39) #[] #[]] w fun e w' => ∃ r : Int, e = .returned (.tuple #[.int .i64 r, .bool (decide (t ∈ l))]) ∧ Below w.heap.size w w' := by
  have H0 : Hid (Box2 w w.heap.size t (w.alloc (.cells #[.int .i64 t.1, .int .i64 t.2] 32))) := ⟨(Below.refl _ _).alloc (Nat.le_refl _) _, by simp, (has_new w [.int .i64 t.1, .int .i64 t.2] _).at 0 rfl, (has_new w [.int .i64 t.1, .int .i64 t.2] _).at 1 rfl⟩
  have HR : Hid (FRow w ao (flatD l) ∧ Up l) := ⟨hr, hu⟩
  obtain ⟨fin, hfin⟩ : ∃ fin, decide (t ∈ l) = fin := ⟨_, rfl⟩
  rw [hfin]
  have HF : Hid (decide (t ∈ l) = fin) := hfin
  clear hfin
  obtain ⟨h, hh⟩ : ∃ h, w.heap.size = h := ⟨_, rfl⟩
  rw [hh] at H0 ⊢
  have HH : Hid (w.heap.size = h) := hh
  clear hr hu
  go_enter Try.func42, Try.ntmps42
  go_wp2
  clear hh
  go_loopg [9, 10, 11] l.length (fun n s9 s10 _ wr => ∃ lo hi : Nat, s9 = .int .i64 lo ∧ s10 = .int .i64 hi ∧ lo ≤ hi ∧ hi ≤ l.length ∧ hi - lo ≤ n ∧ Hid (Box2 w h t wr) ∧ Hid ((∀ (j : Nat) x, j < lo → l[j]? = some x → ltD x t = true) ∧ (∀ (j : Nat) x, hi ≤ j → l[j]? = some x → ltD x t = false)))
  case atStart => exact ⟨0, l.length, rfl, rfl, Nat.zero_le _, Nat.le_refl _, by omega, H0.out, fun j x hj => by omega, fun j x hj hx => by have := (List.getElem?_eq_some_iff.1 hx).1; omega⟩
  case round =>
    clear H0
    obtain ⟨lo, hi, rfl, rfl, hlh, hin, hg, HB, HI⟩ := hrel
    by_cases hlt : lo < hi
    · obtain ⟨m, hm⟩ : ∃ m, m = (lo + hi) / 2 := ⟨_, rfl⟩
      have hmi : ((lo : Int) + (hi : Int)) / 2 = (m : Int) := by omega
      have hm1 : lo ≤ m := by omega
      have hm2 : m < hi := by omega
      have hml : m < l.length := by omega
      clear hm
      obtain ⟨bk, off, rfl, hb, hc⟩ := HR.out.1 (by rw [flatD_len]; omega)
      obtain ⟨x, hx⟩ : ∃ x, l[m]? = some x := ⟨_, List.getElem?_eq_getElem hml⟩
      obtain ⟨g0, g1⟩ := flatD_at l m hx
      have hb1 : bk < h := HH.out ▸ hb
      have k0 := (HB.out.1.cell (p := ⟨bk, off + m * 2, none⟩) (by exact hb1)).trans (hc _ _ g0)
      have k1 := (HB.out.1.cell (p := ⟨bk, off + m * 2 + 1, none⟩) (by exact hb1)).trans (hc _ _ g1)
      have HX : Hid (l[m]? = some x) := hx
      have HW : Hid (HeldB w h bk (off + m * 2) x t wr.drew) := ⟨HB.out.1.drew, HB.out.2.1, k0, k1, HB.out.2.2.1, HB.out.2.2.2⟩
      clear hc hx g0 g1 hb k0 k1
      cases hq : ltD x t with
      | true =>
        have hneg : decide (cmpD x t < 0) = true := by simpa using (cmpD_neg x t).2 hq
        have HQ : Hid (ltD x t = true) := hq
        clear hq
        go_wp2_with fail
        go_region_held3 (HeldB w h bk (off + m * 2) x t) (first | exact heldB_later hb1 hb2 (by assumption) | exact HW.out)
          (first | (go_at_call 39; refine (odots_below x t _).mono ?_; rintro e w2 ⟨rfl, hb2⟩))
        all_goals go_wp2
        all_goals go_roundg (hi - (m + 1))
        case measure => omega
        case rel =>
          refine ⟨m + 1, hi, by go_num, rfl, by omega, hin, Nat.le_refl _, HeldB.box ‹HeldB w h bk (off + m * 2) x t _›, fun j y hj hy => ?_, HI.out.2⟩
          exact up_mono HR.out.2 t (by omega) hy HX.out HQ.out
      | false =>
        have hneg : decide (cmpD x t < 0) = false := by
          rw [decide_eq_false_iff_not, cmpD_neg, hq]; simp
        have HQ : Hid (ltD x t = false) := hq
        clear hq
        go_wp2_with fail
        go_region_held3 (HeldB w h bk (off + m * 2) x t) (first | exact heldB_later hb1 hb2 (by assumption) | exact HW.out)
          (first | (go_at_call 39; refine (odots_below x t _).mono ?_; rintro e w2 ⟨rfl, hb2⟩))
        all_goals go_wp2
        all_goals go_roundg (m - lo)
        case measure => omega
        case rel =>
          refine ⟨lo, m, rfl, rfl, by omega, by omega, Nat.le_refl _, HeldB.box ‹HeldB w h bk (off + m * 2) x t _›, HI.out.1, fun j y hj hy => ?_⟩
          cases hy2 : ltD y t with
          | false => rfl
          | true =>
            have := up_mono HR.out.2 t hj HX.out hy hy2
            rw [HQ.out] at this
            exact absurd this (by simp)
    · obtain rfl : hi = lo := by omega
      have hdl : decide ((hi : Int) < (hi : Int)) = false := by simp
      by_cases hn : hi < l.length
      · have hdn : decide ((hi : Int) < (l.length : Int)) = true := by simpa using hn
        obtain ⟨bk, off, rfl, hb, hc⟩ := HR.out.1 (by rw [flatD_len]; omega)
        obtain ⟨x, hx⟩ : ∃ x, l[hi]? = some x := ⟨_, List.getElem?_eq_getElem hn⟩
        obtain ⟨g0, g1⟩ := flatD_at l hi hx
        have hb1 : bk < h := HH.out ▸ hb
        have k0 := (HB.out.1.cell (p := ⟨bk, off + hi * 2, none⟩) (by exact hb1)).trans (hc _ _ g0)
        have k1 := (HB.out.1.cell (p := ⟨bk, off + hi * 2 + 1, none⟩) (by exact hb1)).trans (hc _ _ g1)
        have HW : Hid (HeldB w h bk (off + hi * 2) x t wr.drew) := ⟨HB.out.1.drew, HB.out.2.1, k0, k1, HB.out.2.2.1, HB.out.2.2.2⟩
        have hmem : Hid (fin = (cmpD x t == 0)) := by
          show fin = (cmpD x t == 0)
          rw [← HF.out, Bool.eq_iff_iff, decide_eq_true_eq, beq_iff_eq, cmpD_zero]
          constructor
          · intro ht
            obtain ⟨j, hj⟩ := List.getElem?_of_mem ht
            by_cases e : hi ≤ j
            · have h1 := HI.out.2 hi x (Nat.le_refl _) hx
              by_cases e2 : hi = j
              · subst e2
                rw [hx] at hj
                simpa using hj
              · have h2 := HR.out.2 hi j x t (by omega) hx hj
                obtain ⟨x1, x2⟩ := x
                obtain ⟨t1, t2⟩ := t
                simp only [ltD, decide_eq_false_iff_not, Prod.mk.injEq] at *
                omega
            · have h1 := HI.out.1 j t (by omega) hj
              simp [ltD] at h1
          · intro e
            subst e
            exact List.mem_of_getElem? hx
        clear hc hx g0 g1 hb k0 k1
        go_wp2_with fail
        go_region_held3 (HeldB w h bk (off + hi * 2) x t) (first | exact heldB_later hb1 hb2 (by assumption) | exact HW.out)
          (first | (go_at_call 39; refine (odots_below x t _).mono ?_; rintro e w2 ⟨rfl, hb2⟩))
        all_goals go_wp2
        all_goals go_ret2
        all_goals exact ⟨hi, ret_two hmem.out, (‹HeldB w h bk (off + hi * 2) x t _›).1⟩
      · have hdn : decide ((hi : Int) < (l.length : Int)) = false := by simp; omega
        have hmem : Hid (fin = false) := by
          show fin = false
          rw [← HF.out, decide_eq_false_iff_not]
          intro ht
          obtain ⟨j, hj⟩ := List.getElem?_of_mem ht
          have h1 := HI.out.1 j t (by have := (List.getElem?_eq_some_iff.1 hj).1; omega) hj
          simp [ltD] at h1
        go_wp2_with fail
        refine wp_region_held_drew (S := Below h w) (by kernel_rfl) HB.out.1.drew (fun hHeld => ?_)
        refine take_at 0 35 (v := .int .i64 hi) rfl (by kernel_rfl) (by kernel_rfl) (by kernel_rfl) (fun _ _ _ h => h) rfl (by rfl) (fun w hSw => ?hy) hHeld ?_
        case hy =>
          try dsimp only at hSw
          go_simp
        simp only [List.set_cons_zero, List.set_cons_succ]
        refine take_at 1 36 (v := .int .i64 hi) rfl (by kernel_rfl) (by kernel_rfl) (by kernel_rfl) (fun _ _ _ h => h) rfl (by rfl) (fun w hSw => ?hy) hHeld ?_
        case hy =>
          try dsimp only at hSw
          go_simp
        simp only [List.set_cons_zero, List.set_cons_succ]
        refine take_at 2 37 (v := .int .i64 l.length) rfl (by kernel_rfl) (by kernel_rfl) (by kernel_rfl) (fun _ _ _ h => h) rfl (by rfl) (fun w hSw => ?hy) hHeld ?_
        case hy =>
          try dsimp only at hSw
          go_simp
        simp only [List.set_cons_zero, List.set_cons_succ]
        refine take_at 3 38 (v := .bool false) rfl (by kernel_rfl) (by kernel_rfl) (by kernel_rfl) (fun _ _ _ h => h) rfl (by rfl) (fun w hSw => ?hy) hHeld ?_
        case hy =>
          try dsimp only at hSw
          go_simp
        simp only [List.set_cons_zero, List.set_cons_succ]
        refine take_at 4 39 (v := .bool false) rfl (by kernel_rfl) (by kernel_rfl) (by kernel_rfl) (fun _ _ _ h => h) rfl (by rfl) (fun w hSw => ?hy) hHeld ?_
        case hy =>
          try dsimp only at hSw
          go_simp
        simp only [List.set_cons_zero, List.set_cons_succ]
        refine skip_at 5 40 rfl (by kernel_rfl) (by kernel_rfl) (by kernel_rfl) (fun _ _ _ h => h) rfl (by rfl) hHeld ?_
        simp only [List.set_cons_zero, List.set_cons_succ]
        refine skip_at 6 41 rfl (by kernel_rfl) (by kernel_rfl) (by kernel_rfl) (fun _ _ _ h => h) rfl (by rfl) hHeld ?_
        simp only [List.set_cons_zero, List.set_cons_succ]
        refine skip_at 7 42 rfl (by kernel_rfl) (by kernel_rfl) (by kernel_rfl) (fun _ _ _ h => h) rfl (by rfl) hHeld ?_
        simp only [List.set_cons_zero, List.set_cons_succ]
        refine skip_at 10 45 rfl (by kernel_rfl) (by kernel_rfl) (by kernel_rfl) (fun _ _ _ h => h) rfl (by rfl) hHeld ?_
        simp only [List.set_cons_zero, List.set_cons_succ]
        refine wpAnyH_ready (rs := [8]) (by kernel_rfl) (by simp) ?_
        refine AllReadyH.cons rfl (fun K hK => ?_) AllReadyH.nil
        go_simp
        refine hK.out _ _ hHeld (fun hHeld => ?_)
        clear hK K
        try simp only [Act.put, List.setIfInBounds_toArray, List.set_cons_zero, List.set_cons_succ]
        refine skip_at 9 44 rfl (by kernel_rfl) (by kernel_rfl) (by kernel_rfl) (fun _ _ _ h => h) rfl (by rfl) hHeld ?_
        simp only [List.set_cons_zero, List.set_cons_succ]
        refine wpAnyH_ready (rs := [11]) (by kernel_rfl) (by simp) ?_
        refine AllReadyH.cons rfl (fun K hK => ?_) AllReadyH.nil
        go_simp
        refine hK.out _ _ hHeld (fun hHeld => ?_)
        clear hK K
        try simp only [Act.put, List.setIfInBounds_toArray, List.set_cons_zero, List.set_cons_succ]
        refine skip_at 12 47 rfl (by kernel_rfl) (by kernel_rfl) (by kernel_rfl) (fun _ _ _ h => h) rfl (by rfl) hHeld ?_
        simp only [List.set_cons_zero, List.set_cons_succ]
        refine take_at 13 48 (v := .bool false) rfl (by kernel_rfl) (by kernel_rfl) (by kernel_rfl) (fun _ _ _ h => h) rfl (by rfl) (fun w hSw => ?hy) hHeld ?_
        case hy =>
          try dsimp only at hSw
          go_simp
        simp only [List.set_cons_zero, List.set_cons_succ]
        refine take_at 14 6 (v := .int .i64 hi) rfl (by kernel_rfl) (by kernel_rfl) (by kernel_rfl) (fun _ _ _ h => h) rfl (by rfl) (fun w hSw => ?hy) hHeld ?_
        case hy =>
          try dsimp only at hSw
          go_simp
        simp only [List.set_cons_zero, List.set_cons_succ]
        refine take_at 15 7 (v := .bool false) rfl (by kernel_rfl) (by kernel_rfl) (by kernel_rfl) (fun _ _ _ h => h) rfl (by rfl) (fun w hSw => ?hy) hHeld ?_
        case hy =>
          try dsimp only at hSw
          go_simp
        simp only [List.set_cons_zero, List.set_cons_succ]
        refine wpAnyH_done (by kernel_rfl) ?_ _
        go_wp2
        go_ret2
        exact ⟨hi, ret_two hmem.out, hHeld⟩

end Go.Proofs.Ytedgobdeoheaoaa
