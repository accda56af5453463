/-
  The order of dots: package order's Dots, by cmp.Compare; the document's DotLess. Rows of dots.
-/
import Derived.Test.YtjfgccjdkflfoaaOnTo
namespace Go.Proofs.Ytjfgccjdkflfoaa
open Go.RowKit
set_option linter.unusedVariables false
set_option linter.unusedSimpArgs false

abbrev D2 := Int × Int
abbrev d2 (p : D2) : List Value := [.int .i64 p.1, .int .i64 p.2]
abbrev dv (p : D2) : Value := .agg #[.int .i64 p.1, .int .i64 p.2]
def flatD (l : List D2) : List Value := l.flatMap d2

theorem flatD_len (l : List D2) : (flatD l).length = l.length * 2 := flat_len d2 2 (fun _ => rfl) l
theorem flatD_at (l : List D2) (i : Nat) {p : D2} (h : l[i]? = some p) : (flatD l)[i * 2]? = some (.int .i64 p.1) ∧ (flatD l)[i * 2 + 1]? = some (.int .i64 p.2) :=
  ⟨flat_get d2 2 (fun _ => rfl) l i 0 (by omega) h, flat_get d2 2 (fun _ => rfl) l i 1 (by omega) h⟩
theorem flatD_append (l m : List D2) : flatD (l ++ m) = flatD l ++ flatD m := by simp [flatD]
theorem oneD {l : List D2} {u : Value} (h : u ∈ flatD l) : u.oneCell' = true := by
  simp only [flatD, d2, List.mem_flatMap, List.mem_cons, List.not_mem_nil, or_false] at h
  obtain ⟨p, _, rfl | rfl⟩ := h <;> rfl

theorem Try.infoDot : (Try.prog.info? 23).map (fun i => (i.zero, i.size, i.bytes)) = some (some (.agg #[.int .i64 0, .int .i64 0]), 2, 16) := by kernel_rfl

/-- Which of two numbers comes first. -/
def cmpI (x y : Int) : Int := if x < y then -1 else if y < x then 1 else 0
/-- Which of two dots comes first. -/
def cmpD (a b : D2) : Int := if cmpI a.1 b.1 = 0 then cmpI a.2 b.2 else cmpI a.1 b.1

set_option maxHeartbeats 400000 in
theorem nan_any (x : Int) (w : World) :
    Calls Try.prog 78 #[.int .i64 x] w fun e w' => e = .returned (.bool false) ∧ w' = w := by
  have hd : (x != x) = false := by simp
  go_enter Try.func78, Try.ntmps78
  go_wp2
  go_ret
  exact ⟨rfl, rfl⟩

set_option maxHeartbeats 400000 in
theorem cmp_any (x y : Int) (w : World) :
    Calls Try.prog 75 #[.int .i64 x, .int .i64 y] w fun e w' => e = .returned (.int .i64 (cmpI x y)) ∧ w' = w := by
  go_enter Try.func75, Try.ntmps75
  go_wp2_with (go_at_call 78; refine (nan_any _ _).mono ?_; rintro e w1 ⟨rfl, rfl⟩)
  all_goals go_ret
  all_goals (refine ⟨?_, rfl⟩; unfold cmpI; repeat' split)
  all_goals first | rfl | (exfalso; omega)

set_option maxHeartbeats 400000 in
/-- order.Dots: two blocks for its arguments, nothing else. -/
theorem odots_any (a b : D2) (w : World) :
    Calls Try.prog 72 #[dv a, dv b] w fun e w' => e = .returned (.int .i64 (cmpD a b)) ∧ w' = (w.alloc (.cells #[.int .i64 a.1, .int .i64 a.2] 23)).alloc (.cells #[.int .i64 b.1, .int .i64 b.2] 23) := by
  by_cases h : cmpI a.1 b.1 = 0
  · have e : cmpD a b = cmpI a.2 b.2 := by unfold cmpD; rw [if_pos h]
    rw [e]
    have h2 : (cmpI a.1 b.1 != 0) = false := by simpa using h
    clear h e
    go_enter Try.func72, Try.ntmps72
    go_wp2_with (go_at_call 75; refine (cmp_any _ _ _).mono ?_; rintro e w1 ⟨rfl, rfl⟩)
    go_ret
    exact ⟨rfl, rfl⟩
  · have e : cmpD a b = cmpI a.1 b.1 := by unfold cmpD; rw [if_neg h]
    rw [e]
    have h2 : (cmpI a.1 b.1 != 0) = true := by simpa using h
    clear h e
    go_enter Try.func72, Try.ntmps72
    go_wp2_with (go_at_call 75; refine (cmp_any _ _ _).mono ?_; rintro e w1 ⟨rfl, rfl⟩)
    go_ret
    exact ⟨rfl, rfl⟩

theorem odots_below (a b : D2) (w : World) :
    Calls Try.prog 72 #[dv a, dv b] w fun e w' => e = .returned (.int .i64 (cmpD a b)) ∧ Below w.heap.size w w' := by
  refine (odots_any a b w).mono ?_
  rintro e w' ⟨rfl, rfl⟩
  exact ⟨rfl, ((Below.refl _ _).alloc (Nat.le_refl _) _).alloc (by simp) _⟩

/-- Does the one stand ahead of the other? -/
def ltD (a b : D2) : Bool := decide (a.1 < b.1 ∨ a.1 = b.1 ∧ a.2 < b.2)

theorem cmpD_neg (a b : D2) : cmpD a b < 0 ↔ ltD a b = true := by
  unfold cmpD cmpI ltD
  simp only [decide_eq_true_eq]
  repeat' split
  all_goals omega

theorem cmpD_pos (a b : D2) : 0 < cmpD a b ↔ ltD b a = true := by
  unfold cmpD cmpI ltD
  simp only [decide_eq_true_eq]
  repeat' split
  all_goals omega

theorem cmpD_zero (a b : D2) : cmpD a b = 0 ↔ a = b := by
  obtain ⟨a1, a2⟩ := a
  obtain ⟨b1, b2⟩ := b
  simp only [Prod.mk.injEq]
  unfold cmpD cmpI
  simp only
  repeat' split
  all_goals omega

set_option maxHeartbeats 400000 in
theorem dotLess_any (a b : D2) (w : World) :
    Calls Try.prog 63 #[dv a, dv b] w fun e w' => e = .returned (.bool (ltD a b)) ∧ Below w.heap.size w w' := by
  go_enter Try.func63, Try.ntmps63
  go_wp2
  all_goals (go_ret; exact ⟨ret_bool (by unfold ltD; rw [Bool.eq_iff_iff]; simp; omega), ((Below.refl _ _).alloc (Nat.le_refl _) _).alloc (by simp) _⟩)

end Go.Proofs.Ytjfgccjdkflfoaa
