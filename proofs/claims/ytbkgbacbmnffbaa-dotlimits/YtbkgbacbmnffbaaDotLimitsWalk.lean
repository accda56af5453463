/-
  The walk of the law DotLimits: dots at their limits.
-/
import Derived.Test.YtbkgbacbmnffbaaDot
import Derived.Test.YtbkgbacbmnffbaaMasks
namespace Go.Proofs.Ytbkgbacbmnffbaa.DotLimits
open Go.RowKit
set_option linter.unusedVariables false

theorem may_is (k s n : Int) (w : World) {b : Bool} (h : mayB k s n = b) :
    Calls Try.prog 6 #[.agg #[.int .i64 k, .int .i64 s], .int .i64 n] w fun e w' => e = .returned (.bool b) ∧ Below w.heap.size w w' := h ▸ may_any k s n w

set_option maxHeartbeats 1000000 in
set_option maxRecDepth 100000 in
theorem walk (n x : Int) (w : World) (hn : (Lit.int .i64 n).wf = true) (hx : (Lit.int .i64 x).wf = true) :
    Calls Try.prog 5 #[.int .i64 n, .int .i64 x] w fun e w' => e = .returned (.bool true) ∧ Below w.heap.size w w' := by
  obtain ⟨k, hk, ek⟩ : ∃ k : Nat, k < 16 ∧ wrap64 ((IntKind.u64.wrap n).tmod 16) = (k : Int) := mod_any n 16 (by omega) (by omega)
  obtain ⟨d, hd, ed⟩ : ∃ d : Nat, d < 1024 ∧ bits .and .i64 x 1023 = (d : Int) := and_mask x 10 (by omega)
  go_enter Try.func5, Try.ntmps5
  go_wp2_with fail
  refine (awake_any _).mono ?_
  rintro e w1 ⟨rfl, h1⟩
  go_wp2_with fail
  refine (may_is _ _ _ _ (b := true) (by simp [mayB]; omega)).mono ?_
  rintro e w2 ⟨rfl, h2⟩
  have hb := thenB h1 h2
  go_wp2_with fail
  refine (may_is _ _ _ _ (b := true) (by simp [mayB]; omega)).mono ?_
  rintro e w3 ⟨rfl, h3⟩
  have hb := thenB hb h3
  go_wp2_with fail
  refine (may_is _ _ _ _ (b := false) (by simp [mayB]; omega)).mono ?_
  rintro e w4 ⟨rfl, h4⟩
  have hb := thenB hb h4
  go_wp2_with fail
  refine (may_is _ _ _ _ (b := false) (by simp [mayB]; omega)).mono ?_
  rintro e w5 ⟨rfl, h5⟩
  have hb := thenB hb h5
  go_wp2_with fail
  refine (may_is _ _ _ _ (b := false) (by simp [mayB]; omega)).mono ?_
  rintro e w6 ⟨rfl, h6⟩
  have hb := thenB hb h6
  go_wp2_with fail
  refine (may_is _ _ _ _ (b := false) (by simp [mayB]; omega)).mono ?_
  rintro e w7 ⟨rfl, h7⟩
  have hb := thenB hb h7
  go_wp2_with fail
  refine (may_is _ _ _ _ (b := false) (by simp [mayB]; omega)).mono ?_
  rintro e w8 ⟨rfl, h8⟩
  have hb := thenB hb h8
  go_wp2_with fail
  refine (may_is _ _ _ _ (b := false) (by simp [mayB]; omega)).mono ?_
  rintro e w9 ⟨rfl, h9⟩
  have hb := thenB hb h9
  go_wp2_with (go_at_call 11; refine (num_any _ _).mono ?_; rintro e w0 ⟨rfl, rfl⟩)
  go_ret
  exact ⟨rfl, hb⟩

end Go.Proofs.Ytbkgbacbmnffbaa.DotLimits
