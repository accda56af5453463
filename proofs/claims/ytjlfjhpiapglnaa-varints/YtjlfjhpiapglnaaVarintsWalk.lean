/-
  The law Varints: every call of package varint answers as the document's own answer does, for any number, text and place: the walk.
-/
import Derived.Test.YtjlfjhpiapglnaaRefVarint
import Derived.Test.YtjlfjhpiapglnaaAwake1
namespace Go.Proofs.Ytjlfjhpiapglnaa.Varints
open Go.RowKit
set_option linter.unusedVariables false

set_option maxHeartbeats 1000000 in
set_option maxRecDepth 100000 in
theorem walk (x : Int) (s : ByteArray) (a : Int) (w : World) (hx : (Lit.int .i64 x).wf = true) (hs : s.size ≤ maxLen) (ha : (Lit.int .i64 a).wf = true) :
    Calls Try.prog 3 #[.int .i64 x, .string s, .int .i64 a] w fun e w' => e = .returned (.bool true) ∧ Below w.heap.size w w' := by
  obtain ⟨l1, n1, e1⟩ : ∃ l n, Vi.putI x = (l, n) := ⟨_, _, rfl⟩
  obtain ⟨x2, t2, n2, e2⟩ : ∃ y t n, Vi.getI s.data.toList a = (y, t, n) := ⟨_, _, _, rfl⟩
  obtain ⟨l3, n3, e3⟩ : ∃ l n, Vi.putText s.data.toList = (l, n) := ⟨_, _, rfl⟩
  obtain ⟨l4, t4, n4, e4⟩ : ∃ l t n, Vi.getText s.data.toList a = (l, t, n) := ⟨_, _, _, rfl⟩
  have E : Hid (Vi.putI x = (l1, n1) ∧ Vi.getI s.data.toList a = (x2, t2, n2) ∧ Vi.putText s.data.toList = (l3, n3) ∧ Vi.getText s.data.toList a = (l4, t4, n4)) := ⟨e1, e2, e3, e4⟩
  clear e1 e2 e3 e4
  go_enter Try.func3, Try.ntmps3
  go_wp2_with (first
    | (go_at_call 8; refine (put_any x _ hx E.out.1).mono ?_; rintro e w1 ⟨rfl, h1⟩)
    | (go_at_call 9; refine (refPutNum_any x _ hx E.out.1).mono ?_; rintro e w2 ⟨rfl, h2⟩)
    | (go_at_call 10; refine (get_any s a _ hs ha E.out.2.1).mono ?_; rintro e w0 ⟨rfl, rfl⟩)
    | (go_at_call 11; refine (refGetNum_any s a _ hs ha E.out.2.1).mono ?_; rintro e w0 ⟨rfl, rfl⟩)
    | (go_at_call 12; refine (putText_any s _ hs E.out.2.2.1).mono ?_; rintro e w3 ⟨rfl, h3⟩)
    | (go_at_call 13; refine (refPutText_any s _ hs E.out.2.2.1).mono ?_; rintro e w4 ⟨rfl, h4⟩)
    | (go_at_call 14; refine (getText_any s a _ hs ha E.out.2.2.2).mono ?_; rintro e w5 ⟨rfl, h5⟩)
    | (go_at_call 15; refine (refGetText_any s a _ hs ha E.out.2.2.2).mono ?_; rintro e w6 ⟨rfl, h6⟩)
    | (go_at_call 16; refine (num_any _ _).mono ?_; rintro e w0 ⟨rfl, rfl⟩)
    | (go_at_call 17; refine (awake_any _).mono ?_; rintro e w7 ⟨rfl, h7⟩))
  go_ret
  exact ⟨rfl, thenB (thenB (thenB (thenB (thenB (thenB h1 h2) h3) h4) h5) h6) h7⟩

end Go.Proofs.Ytjlfjhpiapglnaa.Varints
