/-
  Package vec, function by function, by contracts over plain lists of numbers: May, alike, Has, Under.
-/
import Derived.Test.YtgkddimijmnpcaaGreatDoorZIntRows
import Derived.Test.YtgkddimijmnpcaaGreatDoorZVe
import Derived.Deep.RegionHeld3
import Derived.Deep.QuietTactic
import Derived.Deep.LoopGhost
namespace Go.Proofs.YtgkddimijmnpcaaGreatDoor
open Go.RowKit
set_option linter.unusedVariables false

set_option maxHeartbeats 400000 in
set_option maxRecDepth 100000 in
theorem vecMay_any (ao : Option Addr) (cap : Nat) (l : List Int) (n : Int) (w : World) (hr : RowAt w ao l) {b : Bool} (h : b = true ↔ Ve.May l n) :
    Calls Tryz.prog 41 #[.slice ao l.length cap, .int .i64 n] w fun e w' => e = .returned (.bool b) ∧ w' = w := by
  have HB : Hid (b = true ↔ Ve.May l n) := h
  have HR : Hid (RowAt w ao l) := hr
  clear h hr
  by_cases hn : 1 ≤ n ∧ n ≤ 16 ∧ (l.length : Int) = n
  · obtain ⟨h1, h16, hl⟩ := hn
    subst hl
    go_enter Tryz.func41, Tryz.ntmps41
    go_wp2
    go_loopg [19] l.length (fun n iv wr => ∃ i : Nat, i + n = l.length ∧ iv = .int .i64 i ∧ wr = w ∧ ∀ j, j < i → 0 ≤ l.getD j 0 ∧ l.getD j 0 ≤ 1048575)
    case atStart => exact ⟨0, by omega, rfl, rfl, fun j hj => by omega⟩
    case round =>
      obtain ⟨i, hin, rfl, rfl, hj⟩ := hrel
      have HJ : Hid (∀ j, j < i → 0 ≤ l.getD j 0 ∧ l.getD j 0 ≤ 1048575) := hj
      clear hj
      by_cases hi : i < l.length
      · obtain ⟨bk, off, rfl, hb, hc⟩ := HR.out (by omega)
        have hcx := hc i hi
        obtain ⟨x, hx⟩ : ∃ x, x = l.getD i 0 := ⟨_, rfl⟩
        rw [← hx] at hcx
        have HX : Hid (x = l.getD i 0) := hx
        clear hc hx
        by_cases hok : 0 ≤ x ∧ x ≤ 1048575
        · obtain ⟨hx0, hx1⟩ := hok
          go_wp2
          go_roundg (gk - 1)
          case measure => omega
          case rel =>
            refine ⟨i + 1, by omega, by go_num, rfl, fun j hj => ?_⟩
            by_cases e : j = i
            · subst e; rw [← HX.out]; exact ⟨hx0, hx1⟩
            · exact HJ.out j (by omega)
        · have hbf : b = false := by
            cases b with
            | false => rfl
            | true => exact absurd (HB.out.1 rfl) (fun h => hok (by rw [HX.out]; exact h.2.2.2 i hi))
          subst hbf
          by_cases hx0 : x < 0
          · go_wp2
            go_ret
            exact ⟨rfl, rfl⟩
          · have hx1 : 1048575 < x := by omega
            go_wp2
            go_ret
            exact ⟨rfl, rfl⟩
      · have hbt : b = true := HB.out.2 ⟨h1, h16, rfl, fun j hj => HJ.out j (by omega)⟩
        subst hbt
        have hd : decide ((i : Int) < (l.length : Int)) = false := by simp; omega
        go_wp2
        go_ret
        exact ⟨rfl, rfl⟩
  · have hbf : b = false := by
      cases b with
      | false => rfl
      | true => exact absurd (HB.out.1 rfl) (fun h => hn ⟨h.1, h.2.1, h.2.2.1⟩)
    subst hbf
    go_enter Tryz.func41, Tryz.ntmps41
    by_cases h1 : n < 1
    · go_wp2
      go_ret
      exact ⟨rfl, rfl⟩
    · by_cases h2 : 16 < n
      · go_wp2
        go_ret
        exact ⟨rfl, rfl⟩
      · have hd : ¬ ((l.length : Int) = n) := fun h => hn ⟨by omega, by omega, h⟩
        have hd2 : ((l.length : Int) != n) = true := by simpa using hd
        go_wp2
        go_ret
        exact ⟨rfl, rfl⟩

theorem alike_any (ao bo : Option Addr) (ca cb : Nat) (a b : List Int) (w : World) (ha : RowAt w ao a) (hb : RowAt w bo b) {r : Bool} (h : r = true ↔ Ve.Alike a b) :
    Calls Tryz.prog 93 #[.slice ao a.length ca, .slice bo b.length cb] w fun e w' => e = .returned (.bool r) ∧ w' = w := by
  obtain ⟨x, hx⟩ := Ve.bool_of (Ve.May a a.length)
  obtain ⟨y, hy⟩ := Ve.bool_of (Ve.May b a.length)
  have P1 := vecMay_any ao ca a a.length w ha hx
  have P2 := vecMay_any bo cb b a.length w hb hy
  have hr : r = (x && y) := by
    rw [Bool.eq_iff_iff, h, Bool.and_eq_true, hx, hy]
    exact Iff.rfl
  clear h hx hy ha hb
  subst hr
  go_enter Tryz.func93, Tryz.ntmps93
  cases x with
  | false =>
    go_wp2_with fail
    refine P1.mono ?_
    rintro e w1 ⟨rfl, rfl⟩
    go_wp2
    go_ret
    exact ⟨rfl, rfl⟩
  | true =>
    go_wp2_with fail
    refine P1.mono ?_
    rintro e w1 ⟨rfl, rfl⟩
    go_wp2_with fail
    refine P2.mono ?_
    rintro e w1 ⟨rfl, rfl⟩
    go_wp2
    go_ret
    exact ⟨rfl, rfl⟩

set_option maxHeartbeats 400000 in
set_option maxRecDepth 100000 in
theorem under_any (ao bo : Option Addr) (ca cb : Nat) (a b : List Int) (w : World) (ha : RowAt w ao a) (hb : RowAt w bo b) {r : Bool} (h : r = true ↔ Ve.Under a b) :
    Calls Tryz.prog 47 #[.slice ao a.length ca, .slice bo b.length cb] w fun e w' => e = .returned (.bool r) ∧ Below w.heap.size w w' ∧ w'.heap.size = w.heap.size := by
  obtain ⟨x, hx⟩ := Ve.bool_of (Ve.Alike a b)
  have P1 := alike_any ao bo ca cb a b w ha hb hx
  have HB : Hid (r = true ↔ Ve.Under a b) := h
  have HX : Hid (x = true ↔ Ve.Alike a b) := hx
  have HA : Hid (RowAt w ao a) := ha
  have HC : Hid (RowAt w bo b) := hb
  clear h ha hb hx
  go_enter Tryz.func47, Tryz.ntmps47
  go_wp2_with fail
  refine P1.mono ?_
  rintro e w1 ⟨rfl, rfl⟩
  clear P1
  cases x with
  | false =>
    have hr : r = false := by
      cases r with
      | false => rfl
      | true => exact absurd (HX.out.2 (HB.out.1 rfl).1) (by simp)
    subst hr
    go_wp2
    go_ret
    exact ⟨rfl, Below.refl _ _, rfl⟩
  | true =>
    have HK : Hid (Ve.Alike a b) := HX.out.1 rfl
    have hlb : b.length = a.length := Ve.alike_length HK.out
    have h16 : a.length ≤ 16 := by have := HK.out.1.2.1; omega
    go_wp2
    go_loopg [12] a.length (fun n iv wr => ∃ i : Nat, i + n = a.length ∧ iv = .int .i64 i ∧ (∀ j, j < i → a.getD j 0 ≤ b.getD j 0) ∧ Below w1.heap.size w1 wr ∧ wr.heap.size = w1.heap.size)
    case atStart => exact ⟨0, by omega, rfl, fun j hj => by omega, Below.refl _ _, rfl⟩
    case round =>
      obtain ⟨i, hin, rfl, hj, hbel, hsz⟩ := hrel
      have HJ : Hid (∀ j, j < i → a.getD j 0 ≤ b.getD j 0) := hj
      have HS : Hid (wr.heap.size = w1.heap.size) := hsz
      clear hj hsz
      by_cases hi : i < a.length
      · obtain ⟨bk, off, rfl, hb, hc⟩ := HA.out (by omega)
        obtain ⟨bk2, off2, rfl, hb2, hc2⟩ := HC.out (by omega)
        have hcx := (hbel.cell (p := ⟨bk, off + i, none⟩) (by exact hb)).trans (hc i hi)
        have hcy := (hbel.cell (p := ⟨bk2, off2 + i, none⟩) (by exact hb2)).trans (hc2 i (by omega))
        obtain ⟨x, hx⟩ : ∃ x, x = a.getD i 0 := ⟨_, rfl⟩
        obtain ⟨y, hy⟩ : ∃ y, y = b.getD i 0 := ⟨_, rfl⟩
        rw [← hx] at hcx
        rw [← hy] at hcy
        have HXY : Hid (x = a.getD i 0 ∧ y = b.getD i 0) := ⟨hx, hy⟩
        clear hc hc2 hx hy
        by_cases hok : x ≤ y
        · go_wp2
          go_region
          all_goals go_wp2
          all_goals go_roundg (gk - 1)
          case measure => omega
          case rel =>
            refine ⟨i + 1, by omega, by go_num, fun j hj => ?_, hbel.drew, HS.out⟩
            by_cases e : j = i
            · subst e; rw [← HXY.out.1, ← HXY.out.2]; exact hok
            · exact HJ.out j (by omega)
        · have hbf : r = false := by
            cases r with
            | false => rfl
            | true => exact absurd ((HB.out.1 rfl).2 i hi) (by rw [← HXY.out.1, ← HXY.out.2]; exact hok)
          subst hbf
          have hok2 : y < x := by omega
          go_wp2
          go_region
          all_goals go_wp2
          all_goals go_ret
          all_goals exact ⟨rfl, hbel.drew, HS.out⟩
      · have hbt : r = true := HB.out.2 ⟨HK.out, fun j hj => HJ.out j (by omega)⟩
        subst hbt
        have hd : decide ((i : Int) < (a.length : Int)) = false := by simp; omega
        go_wp2
        go_ret
        exact ⟨rfl, hbel, HS.out⟩

end Go.Proofs.YtgkddimijmnpcaaGreatDoor

