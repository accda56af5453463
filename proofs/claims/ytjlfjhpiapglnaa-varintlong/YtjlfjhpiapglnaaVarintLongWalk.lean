/-
  The law VarintLong: the walk.
-/
import Derived.Test.YtjlfjhpiapglnaaAwake1
import Derived.Test.YtjlfjhpiapglnaaViLong
namespace Go.Proofs.Ytjlfjhpiapglnaa.VarintLong
open Go.RowKit
set_option linter.unusedVariables false

set_option maxHeartbeats 1000000 in
set_option maxRecDepth 100000 in
theorem walk (x : Int) (b : Int) (w : World) (hx : (Lit.int .i64 x).wf = true) (hb : (Lit.int .i64 b).wf = true) :
    Calls Try.prog 6 #[.int .i64 x, .int .i64 b] w fun e w' => e = .returned (.bool true) ∧ Below w.heap.size w w' := by
  have hx2 := bounds_i64 hx
  have hb2 := bounds_i64 hb
  go_enter Try.func6, Try.ntmps6
  go_wp2_with (first
    | (go_at_call 17; refine (awake_any _).mono ?_; rintro e w7 ⟨rfl, h7⟩)
    )
  obtain ⟨k, hk, ek⟩ := Vi.mod62 b
  rw [ek]
  obtain ⟨y, hy1, hy2, ey⟩ := Vi.topbit x k hk
  rw [ey]
  obtain ⟨l, hl, hlen⟩ : ∃ l, Vi.putI (y : Int) = (l, 0) ∧ l.length = k / 7 + 1 := ⟨Vi.put y, Vi.putI_nat y, Vi.put_length hk hy1 hy2⟩
  refine (put_any _ _ (WalkArith.wf_i64 ⟨by omega, by have := Vi.lt_two_pow hk hy2; omega⟩) hl).mono ?_
  rintro e w1 ⟨rfl, h1⟩
  clear ek ey hl
  have H2 : Hid (2 ^ k ≤ y ∧ y < 2 ^ (k + 1)) := ⟨hy1, hy2⟩
  clear hy1 hy2
  go_wp2_with fail
  refine (put_any 0 _ (by decide) (l := [0]) (n := 0) (by decide)).mono ?_
  rintro e w2 ⟨rfl, h2⟩
  go_wp2_with (go_at_call 16; refine (num_any _ _).mono ?_; rintro e w0 ⟨rfl, rfl⟩)
  go_ret
  exact ⟨rfl, thenB (thenB h7 h1) h2⟩

end Go.Proofs.Ytjlfjhpiapglnaa.VarintLong
