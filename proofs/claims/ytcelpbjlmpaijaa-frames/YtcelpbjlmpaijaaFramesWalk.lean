/-
  The law Frames: every call of package frame answers as the document's own answer does, for any text and place: the walk.
-/
import Derived.Test.YtcelpbjlmpaijaaRefFrame
import Derived.Test.YtcelpbjlmpaijaaRefFrameGet
import Derived.Test.YtcelpbjlmpaijaaAwake2
namespace Go.Proofs.Ytcelpbjlmpaijaa.Frames
open Go.RowKit
set_option linter.unusedVariables false

set_option maxHeartbeats 1000000 in
set_option maxRecDepth 100000 in
theorem walk (s : ByteArray) (a : Int) (w : World) (hs : s.size ≤ maxLen) (ha : (Lit.int .i64 a).wf = true) :
    Calls Try.prog 3 #[.string s, .int .i64 a] w fun e w' => e = .returned (.bool true) ∧ Below w.heap.size w w' := by
  obtain ⟨l1, n1, e1⟩ : ∃ l n, Fr.put s.data.toList = (l, n) := ⟨_, _, rfl⟩
  obtain ⟨l2, t2, n2, e2⟩ : ∃ l t n, Fr.get s.data.toList a = (l, t, n) := ⟨_, _, _, rfl⟩
  obtain ⟨k, e3⟩ : ∃ k, Fr.sum s.data.toList = k := ⟨_, rfl⟩
  have E : Hid (Fr.put s.data.toList = (l1, n1) ∧ Fr.get s.data.toList a = (l2, t2, n2) ∧ Fr.sum s.data.toList = k) := ⟨e1, e2, e3⟩
  clear e1 e2 e3
  have S1 := fun w => sum_is s w hs E.out.2.2
  have S2 : ∀ w, Calls Try.prog 13 #[.string s] w fun e w' => e = .returned (.int .i64 (k : Nat)) ∧ w' = w := fun w => by have := refSum_any s w hs; rw [E.out.2.2] at this; exact this
  go_enter Try.func3, Try.ntmps3
  go_wp2_with (first
    | (go_at_call 7; refine (framePut_any s _ hs E.out.1).mono ?_; rintro e w1 ⟨rfl, h1⟩)
    | (go_at_call 8; refine (refPutFrame_any s _ hs E.out.1).mono ?_; rintro e w2 ⟨rfl, h2⟩)
    | (go_at_call 9; refine (frameGet_any s a _ hs ha E.out.2.1).mono ?_; rintro e w3 ⟨rfl, h3⟩)
    | (go_at_call 10; refine (refGetFrame_any s a _ hs ha E.out.2.1).mono ?_; rintro e w4 ⟨rfl, h4⟩)
    | (go_at_call 12; refine (S1 _).mono ?_; rintro e w0 ⟨rfl, rfl⟩)
    | (go_at_call 13; refine (S2 _).mono ?_; rintro e w0 ⟨rfl, rfl⟩)
    | (go_at_call 11; refine (num_any _ _).mono ?_; rintro e w0 ⟨rfl, rfl⟩)
    | (go_at_call 14; refine (awake_any _).mono ?_; rintro e w7 ⟨rfl, h7⟩))
  go_ret
  exact ⟨rfl, thenB (thenB (thenB (thenB h1 h2) h3) h4) h7⟩

end Go.Proofs.Ytcelpbjlmpaijaa.Frames
