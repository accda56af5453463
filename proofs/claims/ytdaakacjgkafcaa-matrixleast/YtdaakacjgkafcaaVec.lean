/-
  Package vec, function by function, by contracts over plain lists of numbers: May, alike, Has, Under.
-/
import Derived.Test.YtdaakacjgkafcaaIntRows
import Derived.Test.YtdaakacjgkafcaaVe
import Derived.Deep.RegionHeld3
import Derived.Deep.QuietTactic
import Derived.Deep.LoopGhost
namespace Go.Proofs.Ytdaakacjgkafcaa
open Go.RowKit
set_option linter.unusedVariables false

set_option maxHeartbeats 400000 in
set_option maxRecDepth 100000 in
theorem may_any (ao : Option Addr) (cap : Nat) (l : List Int) (n : Int) (w : World) (hr : RowAt w ao l) {b : Bool} (h : b = true ↔ Ve.May l n) :
    Calls Try.prog 31 #[.slice ao l.length cap, .int .i64 n] w fun e w' => e = .returned (.bool b) ∧ w' = w := by
  have HB : Hid (b = true ↔ Ve.May l n) := h
  have HR : Hid (RowAt w ao l) := hr
  clear h hr
  by_cases hn : 1 ≤ n ∧ n ≤ 16 ∧ (l.length : Int) = n
  · obtain ⟨h1, h16, hl⟩ := hn
    subst hl
    go_enter Try.func31, Try.ntmps31
    go_wp2
    go_loopg [19] l.length (fun n iv wr => ∃ i : Nat, i + n = l.length ∧ iv = .int .i64 i ∧ wr = w ∧ ∀ j, j < i → 0 ≤ l.getD j 0 ∧ l.getD j 0 ≤ 1048575)
    case atStart => exact ⟨0, by omega, rfl, rfl, fun j hj => by omega⟩
    case round =>
      obtain ⟨i, hin, rfl, rfl, hj⟩ := hrel
      have HJ : Hid (∀ j, j < i → 0 ≤ l.getD j 0 ∧ l.getD j 0 ≤ 1048575) := hj
      clear hj
      by_cases hi : i < l.length
      · obtain ⟨bk, off, rfl, hb, hc⟩ := HR.out (by omega)
        have hcx := hc i hi
        obtain ⟨x, hx⟩ : ∃ x, x = l.getD i 0 := ⟨_, rfl⟩
        rw [← hx] at hcx
        have HX : Hid (x = l.getD i 0) := hx
        clear hc hx
        by_cases hok : 0 ≤ x ∧ x ≤ 1048575
        · obtain ⟨hx0, hx1⟩ := hok
          go_wp2
          go_roundg (gk - 1)
          case measure => omega
          case rel =>
            refine ⟨i + 1, by omega, by go_num, rfl, fun j hj => ?_⟩
            by_cases e : j = i
            · subst e; rw [← HX.out]; exact ⟨hx0, hx1⟩
            · exact HJ.out j (by omega)
        · have hbf : b = false := by
            cases b with
            | false => rfl
            | true => exact absurd (HB.out.1 rfl) (fun h => hok (by rw [HX.out]; exact h.2.2.2 i hi))
          subst hbf
          by_cases hx0 : x < 0
          · go_wp2
            go_ret
            exact ⟨rfl, rfl⟩
          · have hx1 : 1048575 < x := by omega
            go_wp2
            go_ret
            exact ⟨rfl, rfl⟩
      · have hbt : b = true := HB.out.2 ⟨h1, h16, rfl, fun j hj => HJ.out j (by omega)⟩
        subst hbt
        have hd : decide ((i : Int) < (l.length : Int)) = false := by simp; omega
        go_wp2
        go_ret
        exact ⟨rfl, rfl⟩
  · have hbf : b = false := by
      cases b with
      | false => rfl
      | true => exact absurd (HB.out.1 rfl) (fun h => hn ⟨h.1, h.2.1, h.2.2.1⟩)
    subst hbf
    go_enter Try.func31, Try.ntmps31
    by_cases h1 : n < 1
    · go_wp2
      go_ret
      exact ⟨rfl, rfl⟩
    · by_cases h2 : 16 < n
      · go_wp2
        go_ret
        exact ⟨rfl, rfl⟩
      · have hd : ¬ ((l.length : Int) = n) := fun h => hn ⟨by omega, by omega, h⟩
        have hd2 : ((l.length : Int) != n) = true := by simpa using hd
        go_wp2
        go_ret
        exact ⟨rfl, rfl⟩

theorem alike_any (ao bo : Option Addr) (ca cb : Nat) (a b : List Int) (w : World) (ha : RowAt w ao a) (hb : RowAt w bo b) {r : Bool} (h : r = true ↔ Ve.Alike a b) :
    Calls Try.prog 30 #[.slice ao a.length ca, .slice bo b.length cb] w fun e w' => e = .returned (.bool r) ∧ w' = w := by
  obtain ⟨x, hx⟩ := Ve.bool_of (Ve.May a a.length)
  obtain ⟨y, hy⟩ := Ve.bool_of (Ve.May b a.length)
  have P1 := may_any ao ca a a.length w ha hx
  have P2 := may_any bo cb b a.length w hb hy
  have hr : r = (x && y) := by
    rw [Bool.eq_iff_iff, h, Bool.and_eq_true, hx, hy]
    exact Iff.rfl
  clear h hx hy ha hb
  subst hr
  go_enter Try.func30, Try.ntmps30
  cases x with
  | false =>
    go_wp2_with fail
    refine P1.mono ?_
    rintro e w1 ⟨rfl, rfl⟩
    go_wp2
    go_ret
    exact ⟨rfl, rfl⟩
  | true =>
    go_wp2_with fail
    refine P1.mono ?_
    rintro e w1 ⟨rfl, rfl⟩
    go_wp2_with fail
    refine P2.mono ?_
    rintro e w1 ⟨rfl, rfl⟩
    go_wp2
    go_ret
    exact ⟨rfl, rfl⟩

end Go.Proofs.Ytdaakacjgkafcaa
