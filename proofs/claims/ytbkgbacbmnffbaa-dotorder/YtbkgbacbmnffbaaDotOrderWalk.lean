/-
  The walk of the law DotOrder: stamps stand in one row.
-/
import Derived.Test.YtbkgbacbmnffbaaDotsWalk
namespace Go.Proofs.Ytbkgbacbmnffbaa.DotOrder
open Go.RowKit
set_option linter.unusedVariables false
open Go.Proofs.Ytbkgbacbmnffbaa.Dots (Held3 keep3 start3 drewH)

theorem less_self (t n : Int) : lessB t n t n = false := by simp [lessB]

set_option maxHeartbeats 1000000 in
set_option maxRecDepth 100000 in
theorem core_less (a b c d e f : Int) (w : World) (h1 : lessB a b c d = true) (h2 : lessB c d a b = false) (h3 : lessB c d e f = true → lessB a b e f = true) (hne : a = c → b = d → False) :
    Calls Try.prog 4 #[.agg #[.int .i64 a, .int .i64 b], .agg #[.int .i64 c, .int .i64 d], .agg #[.int .i64 e, .int .i64 f]] w fun e w' => e = .returned (.bool true) ∧ Below w.heap.size w w' := by
  have h0 := less_self a b
  go_enter Try.func4, Try.ntmps4
  go_wp2_with fail
  refine (awake_any _).mono ?_
  rintro e w1 ⟨rfl, hb1⟩
  have K := keep3 hb1 (start3 w a b c d e f _ _ _)
  clear hb1
  go_wp2_with fail
  go_region_held3 (Held3 w w.heap.size a b c d e f) (first | exact keep3 hb2 (by assumption) | exact drewH K)
    (first | (go_at_call 8; refine (less_any _ _ _ _ _).mono ?_; rintro e w2 ⟨rfl, hb2⟩))
  all_goals
    have K2 : Held3 w w.heap.size a b c d e f w2 := by assumption
    clear K
    have Kc := K2
    obtain ⟨_, _, k1, k2, k3, k4, k5, k6⟩ := Kc
    go_wp2_with (first | (go_at_call 8; refine (less_any _ _ _ _ _).mono ?_; rintro e w3 ⟨rfl, hb3⟩; have Kc := keep3 hb3 K2; clear k1 k2 k3 k4 k5 k6 K2; have K2 := Kc; obtain ⟨_, _, k1, k2, k3, k4, k5, k6⟩ := Kc))
    all_goals (go_ret; exact ⟨ret_bool (by simp_all), K2.1⟩)

set_option maxHeartbeats 1000000 in
set_option maxRecDepth 100000 in
theorem core_more (a b c d e f : Int) (w : World) (h1 : lessB a b c d = false) (h2 : lessB c d a b = true) :
    Calls Try.prog 4 #[.agg #[.int .i64 a, .int .i64 b], .agg #[.int .i64 c, .int .i64 d], .agg #[.int .i64 e, .int .i64 f]] w fun e w' => e = .returned (.bool true) ∧ Below w.heap.size w w' := by
  have h0 := less_self a b
  go_enter Try.func4, Try.ntmps4
  go_wp2_with fail
  refine (awake_any _).mono ?_
  rintro e w1 ⟨rfl, hb1⟩
  have K := keep3 hb1 (start3 w a b c d e f _ _ _)
  clear hb1
  go_wp2_with fail
  go_region_held3 (Held3 w w.heap.size a b c d e f) (first | exact keep3 hb2 (by assumption) | exact drewH K)
    (first | (go_at_call 8; refine (less_any _ _ _ _ _).mono ?_; rintro e w2 ⟨rfl, hb2⟩))
  all_goals
    have K2 : Held3 w w.heap.size a b c d e f w2 := by assumption
    clear K
    have Kc := K2
    obtain ⟨_, _, k1, k2, k3, k4, k5, k6⟩ := Kc
    go_wp2_with (first | (go_at_call 8; refine (less_any _ _ _ _ _).mono ?_; rintro e w3 ⟨rfl, hb3⟩; have Kc := keep3 hb3 K2; clear k1 k2 k3 k4 k5 k6 K2; have K2 := Kc; obtain ⟨_, _, k1, k2, k3, k4, k5, k6⟩ := Kc))
    all_goals (go_ret; exact ⟨ret_bool (by simp_all), K2.1⟩)

set_option maxHeartbeats 1000000 in
set_option maxRecDepth 100000 in
theorem core_same (a b e f : Int) (w : World) :
    Calls Try.prog 4 #[.agg #[.int .i64 a, .int .i64 b], .agg #[.int .i64 a, .int .i64 b], .agg #[.int .i64 e, .int .i64 f]] w fun e w' => e = .returned (.bool true) ∧ Below w.heap.size w w' := by
  have h0 := less_self a b
  go_enter Try.func4, Try.ntmps4
  go_wp2_with fail
  refine (awake_any _).mono ?_
  rintro e w1 ⟨rfl, hb1⟩
  have K := keep3 hb1 (start3 w a b a b e f _ _ _)
  clear hb1
  go_wp2_with fail
  go_region_held3 (Held3 w w.heap.size a b a b e f) (first | exact keep3 hb2 (by assumption) | exact drewH K)
    (first | (go_at_call 8; refine (less_any _ _ _ _ _).mono ?_; rintro e w2 ⟨rfl, hb2⟩))
  all_goals
    have K2 : Held3 w w.heap.size a b a b e f w2 := by assumption
    clear K
    have Kc := K2
    obtain ⟨_, _, k1, k2, k3, k4, k5, k6⟩ := Kc
    go_wp2_with (first | (go_at_call 8; refine (less_any _ _ _ _ _).mono ?_; rintro e w3 ⟨rfl, hb3⟩; have Kc := keep3 hb3 K2; clear k1 k2 k3 k4 k5 k6 K2; have K2 := Kc; obtain ⟨_, _, k1, k2, k3, k4, k5, k6⟩ := Kc))
    all_goals (go_ret; exact ⟨ret_bool (by simp_all), K2.1⟩)

theorem walk {H : Type} {enc : TypeId × Value → H} {base : Nat} {d0 d2 d3 : DataW H} {p0 p2 p3 : List MemPlace} (v v2 v3 : Value) (w : World)
    (o0 : Value.okWide Try.prog w .any base 25 v) (h0 : DataW.Trod enc Try.prog w 0 (fun _ => true) true 25 v d0 p0)
    (o2 : Value.okWide Try.prog w .any base 25 v2) (h2 : DataW.Trod enc Try.prog w 0 (fun _ => true) true 25 v2 d2 p2)
    (o3 : Value.okWide Try.prog w .any base 25 v3) (h3 : DataW.Trod enc Try.prog w 0 (fun _ => true) true 25 v3 d3 p3) :
    Calls Try.prog 4 #[v, v2, v3] w fun e w' => e = .returned (.bool true) ∧ Below w.heap.size w w' := by
  obtain ⟨a, b, rfl, _, _⟩ := open_two Try.underlying25 (by kernel_rfl) rfl rfl (by kernel_rfl) (by kernel_rfl) Try.underlying3 Try.underlying3 o0 h0
  obtain ⟨c, d, rfl, _, _⟩ := open_two Try.underlying25 (by kernel_rfl) rfl rfl (by kernel_rfl) (by kernel_rfl) Try.underlying3 Try.underlying3 o2 h2
  obtain ⟨e, f, rfl, _, _⟩ := open_two Try.underlying25 (by kernel_rfl) rfl rfl (by kernel_rfl) (by kernel_rfl) Try.underlying3 Try.underlying3 o3 h3
  by_cases l1 : a < c ∨ a = c ∧ b < d
  · refine core_less a b c d e f w (by simpa [lessB] using l1) (by simp [lessB]; omega) (fun h => ?_) (by omega)
    simp [lessB] at h ⊢
    omega
  · by_cases l2 : c < a ∨ c = a ∧ d < b
    · exact core_more a b c d e f w (by simp [lessB]; omega) (by simpa [lessB] using l2)
    · obtain ⟨rfl, rfl⟩ : a = c ∧ b = d := by omega
      exact core_same a b e f w

end Go.Proofs.Ytbkgbacbmnffbaa.DotOrder
