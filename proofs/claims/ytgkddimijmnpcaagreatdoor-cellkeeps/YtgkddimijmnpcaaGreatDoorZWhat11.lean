/-
  Package op's partsOf, Kind, mayRef, mayWhat, May, by contracts.
-/
import Derived.Test.YtgkddimijmnpcaaGreatDoorZMay11
import Derived.Deep.Cut
import Derived.Deep.CutRange
namespace Go.Proofs.YtgkddimijmnpcaaGreatDoor
open Go.RowKit
set_option linter.unusedVariables false
set_option linter.unusedSimpArgs false

def pCel (k : Int) : Int := if k = 1 then 1 else if k = 2 ∨ k = 3 then 2 else if k = 4 ∨ k = 5 then 3 else 0
def pNum (k : Int) : Bool := decide (k = 1)
def pDot (k : Int) : Bool := decide (k = 3)
def pRef (k : Int) : Bool := decide (k = 4 ∨ k = 5)
def pVal (k : Int) : Bool := decide (k = 0 ∨ k = 2 ∨ k = 4)
def pKno (k : Int) : Bool := decide (0 ≤ k ∧ k ≤ 5)
abbrev pL (k : Int) : List Value := [.int .i64 (pCel k), .bool (pNum k), .bool (pDot k), .bool (pRef k), .bool (pVal k)]

theorem Has.fiveP {w : World} {g : Nat} {u0 u1 u2 u3 u4 : Value} (h : Has w g [u0, u1, u2, u3, u4]) : w.cell? ⟨g, 0, none⟩ = some u0 ∧ w.cell? ⟨g, 1, none⟩ = some u1 ∧ w.cell? ⟨g, 2, none⟩ = some u2 ∧ w.cell? ⟨g, 3, none⟩ = some u3 ∧ w.cell? ⟨g, 4, none⟩ = some u4 := ⟨h.at 0 rfl, h.at 1 rfl, h.at 2 rfl, h.at 3 rfl, h.at 4 rfl⟩
theorem ret_parts {fn : Func} {tmps : Array Value} {t u : Tmp} {w : World} {g : Nat} {v u0 u1 u2 u3 u4 : Value} (h : fn.results = #[.cell t 93, .tmp u]) (ht : tmps[t]? = some (.pointer (some ⟨g, 0, none⟩))) (hu : tmps[u]? = some v) (hg : Has w g [u0, u1, u2, u3, u4]) :
    (results fn tmps).run Tryz.prog w = .ok (.tuple #[.agg #[u0, u1, u2, u3, u4], v]) w := by
  obtain ⟨h0, h1, h2, h3, h4⟩ := hg.fiveP
  clear hg
  simp [results, h, ht, hu, h0, h1, h2, h3, h4, go_sem]

set_option maxHeartbeats 1000000 in
set_option maxRecDepth 100000 in
theorem parts_any (k : Int) (w : World) : Calls Tryz.prog 53 #[.int .i64 k] w fun e w' => e = .returned (.tuple #[.agg #[.int .i64 (pCel k), .bool (pNum k), .bool (pDot k), .bool (pRef k), .bool (pVal k)], .bool (pKno k)]) ∧ Below w.heap.size w w' := by
  have hk : k = 0 ∨ k = 1 ∨ k = 2 ∨ k = 3 ∨ k = 4 ∨ k = 5 ∨ ¬ (0 ≤ k ∧ k ≤ 5) := by omega
  rcases hk with rfl | rfl | rfl | rfl | rfl | rfl | h
  · go_enter Tryz.func53, Tryz.ntmps53
    go_wp2
    exact bodyPost_ret (ret_parts rfl rfl rfl (has_new w [.int .i64 0, .bool false, .bool false, .bool false, .bool true] _)) rfl ⟨rfl, (Below.refl _ _).alloc (Nat.le_refl _) _⟩
  · go_enter Tryz.func53, Tryz.ntmps53
    go_wp2
    exact bodyPost_ret (ret_parts rfl rfl rfl (has_new w [.int .i64 1, .bool true, .bool false, .bool false, .bool false] _)) rfl ⟨rfl, (Below.refl _ _).alloc (Nat.le_refl _) _⟩
  · go_enter Tryz.func53, Tryz.ntmps53
    go_wp2
    exact bodyPost_ret (ret_parts rfl rfl rfl (has_new w [.int .i64 2, .bool false, .bool false, .bool false, .bool true] _)) rfl ⟨rfl, (Below.refl _ _).alloc (Nat.le_refl _) _⟩
  · go_enter Tryz.func53, Tryz.ntmps53
    go_wp2
    exact bodyPost_ret (ret_parts rfl rfl rfl (has_new w [.int .i64 2, .bool false, .bool true, .bool false, .bool false] _)) rfl ⟨rfl, (Below.refl _ _).alloc (Nat.le_refl _) _⟩
  · go_enter Tryz.func53, Tryz.ntmps53
    go_wp2
    exact bodyPost_ret (ret_parts rfl rfl rfl (has_new w [.int .i64 3, .bool false, .bool false, .bool true, .bool true] _)) rfl ⟨rfl, (Below.refl _ _).alloc (Nat.le_refl _) _⟩
  · go_enter Tryz.func53, Tryz.ntmps53
    go_wp2
    exact bodyPost_ret (ret_parts rfl rfl rfl (has_new w [.int .i64 3, .bool false, .bool false, .bool true, .bool false] _)) rfl ⟨rfl, (Below.refl _ _).alloc (Nat.le_refl _) _⟩
  · have e1 : pCel k = 0 := by unfold pCel; rw [if_neg (by omega), if_neg (by omega), if_neg (by omega)]
    have e2 : pNum k = false := by unfold pNum; simp; omega
    have e3 : pDot k = false := by unfold pDot; simp; omega
    have e4 : pRef k = false := by unfold pRef; simp; omega
    have e5 : pVal k = false := by unfold pVal; simp; omega
    have e6 : pKno k = false := by unfold pKno; simp; omega
    rw [e1, e2, e3, e4, e5, e6]
    clear e1 e2 e3 e4 e5 e6
    have q0 : (k == 0) = false := by rw [beq_eq_false_iff_ne]; omega
    have q1 : (k == 1) = false := by rw [beq_eq_false_iff_ne]; omega
    have q2 : (k == 2) = false := by rw [beq_eq_false_iff_ne]; omega
    have q3 : (k == 3) = false := by rw [beq_eq_false_iff_ne]; omega
    have q4 : (k == 4) = false := by rw [beq_eq_false_iff_ne]; omega
    have q5 : (k == 5) = false := by rw [beq_eq_false_iff_ne]; omega
    clear h
    go_enter Tryz.func53, Tryz.ntmps53
    go_wp2
    exact bodyPost_ret (ret_parts rfl rfl rfl (has_new w [.int .i64 0, .bool false, .bool false, .bool false, .bool false] _)) rfl ⟨rfl, (Below.refl _ _).alloc (Nat.le_refl _) _⟩

def refB (o : O14) (b : Bool) : Bool := if o.rn = 0 ∧ o.rs = 0 then decide (o.kind ≠ 5) else b && hasB o.deps (o.rn, o.rs)

set_option maxHeartbeats 1000000 in
set_option maxRecDepth 100000 in
theorem mref_any (o : O14) (q : Pq) (b : Bool) (w : World) (hr : ORow w o q) : Calls Tryz.prog 98 #[oV o q, .bool b] w fun e w' => e = .returned (.bool (refB o b)) ∧ Below w.heap.size w w' := by
  have hal : Below w.heap.size w (w.alloc (.cells (oL o q).toArray 35)) := (Below.refl _ _).alloc (Nat.le_refl _) _
  have HR : Hid (ORow (w.alloc (.cells (oL o q).toArray 35)) o q) := hr.later hal
  obtain ⟨dn, ds, time, deps, kind, ty, idd, field, value, re, im, rn, rs, dots⟩ := o
  clear hr
  have C1 : ∀ W, FRow W q.po (flatI deps) → Calls Tryz.prog 125 #[.slice q.po deps.length q.pc, .agg #[.int .i64 rn, .int .i64 rs]] W fun e w' => e = .returned (.bool (hasB deps (rn, rs))) ∧ Below W.heap.size W w' := fun W h => vhas_any q.po q.pc deps (rn, rs) W h
  by_cases h0 : rn = 0
  · by_cases h1 : rs = 0
    · subst h0 h1
      go_enter Tryz.func98, Tryz.ntmps98
      go_wp2
      go_ret
      exact ⟨ret_bool (by unfold refB; rw [Bool.eq_iff_iff]; simp), hal⟩
    · subst h0
      have q1 : (rs == 0) = false := by rw [beq_eq_false_iff_ne]; exact h1
      have e : refB ⟨dn, ds, time, deps, kind, ty, idd, field, value, re, im, 0, rs, dots⟩ b = (b && hasB deps (0, rs)) := by unfold refB; rw [if_neg (by simpa using h1)]
      rw [e]
      clear e
      cases b with
      | false =>
        go_enter Tryz.func98, Tryz.ntmps98
        go_wp2
        go_ret
        exact ⟨rfl, hal⟩
      | true =>
        go_enter Tryz.func98, Tryz.ntmps98
        go_wp2_with (go_at_call 125; refine (C1 _ HR.out.1).mono ?_; rintro e w2 ⟨rfl, b2⟩)
        go_ret
        exact ⟨by simp, thenB hal b2⟩
  · have q0 : (rn == 0) = false := by rw [beq_eq_false_iff_ne]; exact h0
    have e : refB ⟨dn, ds, time, deps, kind, ty, idd, field, value, re, im, rn, rs, dots⟩ b = (b && hasB deps (rn, rs)) := by unfold refB; rw [if_neg (by simp [h0])]
    rw [e]
    clear e
    cases b with
    | false =>
      go_enter Tryz.func98, Tryz.ntmps98
      go_wp2
      go_ret
      exact ⟨rfl, hal⟩
    | true =>
      go_enter Tryz.func98, Tryz.ntmps98
      go_wp2_with (go_at_call 125; refine (C1 _ HR.out.1).mono ?_; rintro e w2 ⟨rfl, b2⟩)
      go_ret
      exact ⟨by simp, thenB hal b2⟩

theorem what_chain (o : O14) : whatB o = (pKno o.kind && ((pNum o.kind || numZ o) && (winB o.re && (winB o.im && ((pDot o.kind || dotZ o) && (dotsB o.deps o.dots && (refB o (pRef o.kind) && ((pVal o.kind || valZ o) && decide (o.value.size ≤ 256))))))))) := by
  have z1 : numZ o = true → winB o.re = true ∧ winB o.im = true := fun h => by
    have := of_decide_eq_true h
    rw [this.1, this.2]
    exact ⟨rfl, rfl⟩
  have z2 : dotZ o = true → dotsB o.deps o.dots = true := fun h => by
    rw [List.eq_nil_of_length_eq_zero (of_decide_eq_true h)]
    rfl
  have z3 : valZ o = true → decide (o.value.size ≤ 256) = true := fun h => by
    have := of_decide_eq_true h
    simp
    omega
  have r1 : refB o false = (refZ o && decide (o.kind ≠ 5)) := by
    unfold refB refZ
    by_cases h : o.rn = 0 ∧ o.rs = 0 <;> simp [h]
  have r2 : refB o true = ((refZ o && decide (o.kind ≠ 5)) || hasB o.deps (o.rn, o.rs)) := by
    unfold refB refZ
    by_cases h : o.rn = 0 ∧ o.rs = 0
    · have : hasB o.deps (o.rn, o.rs) = false := by unfold hasB; rw [h.2]; simp
      rw [this]
      simp [h]
    · simp [h]
  have hk : o.kind = 0 ∨ o.kind = 1 ∨ o.kind = 2 ∨ o.kind = 3 ∨ o.kind = 4 ∨ o.kind = 5 ∨ ¬ (0 ≤ o.kind ∧ o.kind ≤ 5) := by omega
  unfold whatB
  rcases hk with h | h | h | h | h | h | h
  all_goals
    first
      | (rw [h] at r1 r2 ⊢
         simp only [show pKno 0 = true from rfl, show pKno 1 = true from rfl, show pKno 2 = true from rfl, show pKno 3 = true from rfl, show pKno 4 = true from rfl, show pKno 5 = true from rfl,
           show pNum 0 = false from rfl, show pNum 1 = true from rfl, show pNum 2 = false from rfl, show pNum 3 = false from rfl, show pNum 4 = false from rfl, show pNum 5 = false from rfl,
           show pDot 0 = false from rfl, show pDot 1 = false from rfl, show pDot 2 = false from rfl, show pDot 3 = true from rfl, show pDot 4 = false from rfl, show pDot 5 = false from rfl,
           show pRef 0 = false from rfl, show pRef 1 = false from rfl, show pRef 2 = false from rfl, show pRef 3 = false from rfl, show pRef 4 = true from rfl, show pRef 5 = true from rfl,
           show pVal 0 = true from rfl, show pVal 1 = false from rfl, show pVal 2 = true from rfl, show pVal 3 = false from rfl, show pVal 4 = true from rfl, show pVal 5 = false from rfl, r1, r2]
         generalize decide (o.value.size ≤ 256) = b9 at *
         generalize numZ o = b1 at *
         generalize winB o.re = b2 at *
         generalize winB o.im = b3 at *
         generalize dotZ o = b4 at *
         generalize dotsB o.deps o.dots = b5 at *
         generalize refZ o = b6 at *
         generalize hasB o.deps (o.rn, o.rs) = b7 at *
         generalize valZ o = b8 at *
         clear r1 r2 h
         revert z1 z2 z3
         cases b1 <;> cases b2 <;> cases b3 <;> cases b4 <;> cases b5 <;> cases b6 <;> cases b7 <;> cases b8 <;> cases b9 <;> simp)
      | (have e6 : pKno o.kind = false := by unfold pKno; simp; omega
         rw [e6, if_neg (by omega), if_neg (by omega), if_neg (by omega), if_neg (by omega), if_neg (by omega)]
         simp)

end Go.Proofs.YtgkddimijmnpcaaGreatDoor

