/-
  The law's own first look ('awake'): it answers true.
-/
import Derived.Test.YtjlfjhpiapglnaaVarintText
namespace Go.Proofs.Ytjlfjhpiapglnaa
open Go.RowKit
set_option linter.unusedVariables false

theorem num_any (x : Int) (w : World) :
    Calls Try.prog 16 #[.int .i64 x] w fun e w' => e = .returned (.int .i64 x) ∧ w' = w := by
  go_enter Try.func16, Try.ntmps16
  go_wp2
  go_ret
  exact ⟨rfl, rfl⟩

set_option maxHeartbeats 1000000 in
set_option maxRecDepth 100000 in
theorem awake_any (w : World) :
    Calls Try.prog 17 #[] w fun e w' => e = .returned (.bool true) ∧ Below w.heap.size w w' := by
  go_enter Try.func17, Try.ntmps17
  go_wp2_with fail
  refine (put_any 300 _ (by decide) (l := [172, 2]) (n := 0) (by decide)).mono ?_
  rintro e w1 ⟨rfl, h1⟩
  go_wp2_with fail
  refine (get_any ⟨#[122, 172, 2]⟩ 1 _ (by decide) (by decide) (x := 300) (t := 3) (n := 0) (by decide)).mono ?_
  rintro e w2 ⟨rfl, rfl⟩
  go_wp2_with fail
  refine (get_any ⟨#[128]⟩ 0 _ (by decide) (by decide) (x := 0) (t := 0) (n := 100) (by decide)).mono ?_
  rintro e w2 ⟨rfl, rfl⟩
  go_wp2_with fail
  refine (get_any ⟨#[128, 0]⟩ 0 _ (by decide) (by decide) (x := 0) (t := 0) (n := 101) (by decide)).mono ?_
  rintro e w2 ⟨rfl, rfl⟩
  go_wp2_with fail
  refine (putText_any ⟨#[97, 98]⟩ _ (by decide) (l := [2, 97, 98]) (n := 0) (by decide)).mono ?_
  rintro e w3 ⟨rfl, h2⟩
  go_wp2_with fail
  refine (getText_any ⟨#[2, 97, 98, 99]⟩ 0 _ (by decide) (by decide) (l := [97, 98]) (t := 3) (n := 0) (by decide)).mono ?_
  rintro e w4 ⟨rfl, h3⟩
  go_wp2_with fail
  refine (put_any (-1) _ (by decide) (l := []) (n := 101) (by decide)).mono ?_
  rintro e w5 ⟨rfl, h4⟩
  go_wp2_with (go_at_call 16; refine (num_any _ _).mono ?_; rintro e w2 ⟨rfl, rfl⟩)
  go_ret
  exact ⟨rfl, h1.trans ((h2.mono h1.size).trans ((h3.mono (Nat.le_trans h1.size h2.size)).trans (h4.mono (Nat.le_trans h1.size (Nat.le_trans h2.size h3.size)))))⟩

end Go.Proofs.Ytjlfjhpiapglnaa
