/-
  The document's own answers for layer 4 (VecMay, Has, Under, Max, Min of the reference package), by contracts: the same plain lists.
-/
import Derived.Test.YtgkddimijmnpcaaGreatDoorZVecMaxMin
import Derived.Test.YtgkddimijmnpcaaGreatDoorZIntAppend
namespace Go.Proofs.YtgkddimijmnpcaaGreatDoor
open Go.RowKit
set_option linter.unusedVariables false

set_option maxHeartbeats 400000 in
set_option maxRecDepth 100000 in
theorem refVecMay_any (ao : Option Addr) (cap : Nat) (l : List Int) (n : Int) (w : World) (hr : RowAt w ao l) (hl : l.length ≤ maxLen) {b : Bool} (h : b = true ↔ Ve.May l n) :
    Calls Tryz.prog 43 #[.slice ao l.length cap, .int .i64 n] w fun e w' => e = .returned (.bool b) ∧ w' = w := by
  have HB : Hid (b = true ↔ Ve.May l n) := h
  have HR : Hid (RowAt w ao l) := hr
  clear h hr
  unfold maxLen at hl
  go_enter Tryz.func43, Tryz.ntmps43
  go_wp2
  go_loopg [5] l.length (fun n iv wr => ∃ i : Nat, i + n = l.length ∧ iv = .int .i64 i ∧ wr = w ∧ ∀ j, j < i → 0 ≤ l.getD j 0 ∧ l.getD j 0 ≤ 1048575)
  case atStart => exact ⟨0, by omega, rfl, rfl, fun j hj => by omega⟩
  case round =>
    obtain ⟨i, hin, rfl, rfl, hj⟩ := hrel
    have HJ : Hid (∀ j, j < i → 0 ≤ l.getD j 0 ∧ l.getD j 0 ≤ 1048575) := hj
    clear hj
    by_cases hi : i < l.length
    · obtain ⟨bk, off, rfl, hb, hc⟩ := HR.out (by omega)
      have hcx := hc i hi
      obtain ⟨x, hx⟩ : ∃ x, x = l.getD i 0 := ⟨_, rfl⟩
      rw [← hx] at hcx
      have HX : Hid (x = l.getD i 0) := hx
      clear hc hx
      by_cases hok : 0 ≤ x ∧ x ≤ 1048575
      · obtain ⟨hx0, hx1⟩ := hok
        go_wp2
        go_roundg (gk - 1)
        case measure => omega
        case rel =>
          refine ⟨i + 1, by omega, by go_num, rfl, fun j hj => ?_⟩
          by_cases e : j = i
          · subst e; rw [← HX.out]; exact ⟨hx0, hx1⟩
          · exact HJ.out j (by omega)
      · have hbf : b = false := by
          cases b with
          | false => rfl
          | true => exact absurd (HB.out.1 rfl) (fun h => hok (by rw [HX.out]; exact h.2.2.2 i hi))
        subst hbf
        by_cases hx0 : x < 0
        · go_wp2
          go_ret
          exact ⟨rfl, rfl⟩
        · have hx1 : 1048575 < x := by omega
          go_wp2
          go_ret
          exact ⟨rfl, rfl⟩
    · have hd : decide ((i : Int) < (l.length : Int)) = false := by simp; omega
      have hbt : b = (decide (1 ≤ n) && decide (n ≤ 16) && ((l.length : Int) == n)) := by
        rw [Bool.eq_iff_iff, HB.out]
        simp only [Bool.and_eq_true, decide_eq_true_eq, beq_iff_eq]
        exact ⟨fun h => ⟨⟨h.1, h.2.1⟩, h.2.2.1⟩, fun h => ⟨h.1.1, h.1.2, h.2, fun j hj => HJ.out j (by omega)⟩⟩
      subst hbt
      clear HB
      cases h1 : decide (1 ≤ n) with
      | false =>
        go_wp2
        go_ret
        exact ⟨ret_bool (by simp [h1]), rfl⟩
      | true =>
        cases h2 : decide (n ≤ 16) with
        | false =>
          go_wp2
          go_ret
          exact ⟨ret_bool (by simp [h1, h2]), rfl⟩
        | true =>
          cases h3 : ((l.length : Int) == n) with
          | false =>
            go_wp2
            go_ret
            exact ⟨ret_bool (by simp [h1, h2, h3]), rfl⟩
          | true =>
            go_wp2
            go_ret
            exact ⟨ret_bool (by simp [h1, h2, h3]), rfl⟩

set_option maxHeartbeats 400000 in
set_option maxRecDepth 100000 in
theorem refHas_any (ao : Option Addr) (cap : Nat) (l : List Int) (k s : Int) (w : World) (hr : RowAt w ao l) {b : Bool} (h : b = true ↔ Ve.Has l k s) :
    Calls Tryz.prog 70 #[.slice ao l.length cap, .agg #[.int .i64 k, .int .i64 s]] w fun e w' => e = .returned (.bool b) ∧ Below w.heap.size w w' := by
  have HB : Hid (b = true ↔ Ve.Has l k s) := h
  have hbel : ∀ o, Below w.heap.size w (w.alloc o) := fun o => ((Below.refl w.heap.size w).alloc (Nat.le_refl _) _)
  clear h
  by_cases hk : 0 ≤ k ∧ k < (l.length : Int)
  · obtain ⟨hk0, hk1⟩ := hk
    obtain ⟨j, rfl⟩ : ∃ j : Nat, k = (j : Int) := ⟨k.toNat, by omega⟩
    have hj : j < l.length := by omega
    obtain ⟨bk, off, rfl, hb, hc⟩ := hr (by omega)
    obtain ⟨x, hx⟩ : ∃ x, x = l.getD j 0 := ⟨_, rfl⟩
    have hcx := hc j hj
    rw [← hx] at hcx
    have hcy : ∀ o, (w.alloc o).cell? ⟨bk, off + j, none⟩ = some (.int .i64 x) := fun o => (World.cell?_alloc_past _ _ _ hb).trans hcx
    have HX : Hid (x = l.getD j 0) := hx
    clear hr hc hx
    have hbx : b = (decide (1 ≤ s) && decide (s ≤ x)) := by
      rw [Bool.eq_iff_iff, HB.out]
      simp [Ve.Has, HX.out, hj]
    subst hbx
    clear HB
    by_cases h1 : 1 ≤ s
    · by_cases h2 : s ≤ x
      · go_enter Tryz.func70, Tryz.ntmps70
        go_wp2
        go_region
        all_goals (try go_wp2)
        all_goals (go_ret; exact ⟨ret_bool (by simp; omega), (hbel _).drew⟩)
      · have h2' : x < s := by omega
        go_enter Tryz.func70, Tryz.ntmps70
        go_wp2
        go_region
        all_goals (try go_wp2)
        all_goals (go_ret; exact ⟨ret_bool (by simp; omega), (hbel _).drew⟩)
    · have h1' : s < 1 := by omega
      have hd : decide (1 ≤ s) = false := by simp; omega
      go_enter Tryz.func70, Tryz.ntmps70
      go_wp2
      go_region
      all_goals (try go_wp2)
      all_goals (go_ret; exact ⟨ret_bool (by simp; omega), (hbel _).drew⟩)
  · have hbf : b = false := by
      cases b with
      | false => rfl
      | true => exact absurd (HB.out.1 rfl) (fun h => hk ⟨h.1, h.2.1⟩)
    subst hbf
    clear HB hr
    by_cases h0 : k < 0
    · have hd : decide (0 ≤ k) = false := by simp; omega
      go_enter Tryz.func70, Tryz.ntmps70
      go_wp2
      go_region
      all_goals (try go_wp2)
      all_goals (go_ret; exact ⟨rfl, (hbel _).drew⟩)
    · have h1 : (l.length : Int) ≤ k := by omega
      have h2 : 0 ≤ k := by omega
      have hd : decide (k < (l.length : Int)) = false := by simp; omega
      go_enter Tryz.func70, Tryz.ntmps70
      go_wp2
      go_region
      all_goals (try go_wp2)
      all_goals (go_ret; exact ⟨rfl, (hbel _).drew⟩)

set_option maxHeartbeats 800000 in
set_option maxRecDepth 100000 in
theorem refUnder_any (ao bo : Option Addr) (ca cb : Nat) (a b : List Int) (w : World) (ha : RowAt w ao a) (hb : RowAt w bo b) (hla : a.length ≤ maxLen) (hlb : b.length ≤ maxLen) {r : Bool} (h : r = true ↔ Ve.Under a b) :
    Calls Tryz.prog 48 #[.slice ao a.length ca, .slice bo b.length cb] w fun e w' => e = .returned (.bool r) ∧ Below w.heap.size w w' ∧ w'.heap.size = w.heap.size := by
  obtain ⟨x, hx⟩ := Ve.bool_of (Ve.May a a.length)
  obtain ⟨y, hy⟩ := Ve.bool_of (Ve.May b a.length)
  have P1 := refVecMay_any ao ca a a.length w ha hla hx
  have P2 := refVecMay_any bo cb b a.length w hb hlb hy
  have HB : Hid (r = true ↔ Ve.Under a b) := h
  have HA : Hid (RowAt w ao a) := ha
  have HC : Hid (RowAt w bo b) := hb
  have HX : Hid ((x = true ↔ Ve.May a a.length) ∧ (y = true ↔ Ve.May b a.length)) := ⟨hx, hy⟩
  clear h ha hb hx hy hlb hla
  cases x with
  | false =>
    have hA : ¬ Ve.Alike a b := fun h => absurd (HX.out.1.2 h.1) (by simp)
    have hr : r = false := by
      cases r with
      | false => rfl
      | true => exact absurd (HB.out.1 rfl).1 hA
    subst hr
    clear hA HX HB
    go_enter Tryz.func48, Tryz.ntmps48
    go_wp2_with fail
    refine P1.mono ?_
    rintro e w1 ⟨rfl, rfl⟩
    go_wp2
    go_ret
    exact ⟨rfl, Below.refl _ _, rfl⟩
  | true =>
    cases y with
    | false =>
      have hA : ¬ Ve.Alike a b := fun h => absurd (HX.out.2.2 h.2) (by simp)
      have hr : r = false := by
        cases r with
        | false => rfl
        | true => exact absurd (HB.out.1 rfl).1 hA
      subst hr
      clear hA HX HB
      go_enter Tryz.func48, Tryz.ntmps48
      go_wp2_with fail
      refine P1.mono ?_
      rintro e w1 ⟨rfl, rfl⟩
      go_wp2_with fail
      refine P2.mono ?_
      rintro e w1 ⟨rfl, rfl⟩
      go_wp2
      go_ret
      exact ⟨rfl, Below.refl _ _, rfl⟩
    | true =>
      have HK : Hid (Ve.Alike a b) := ⟨HX.out.1.1 rfl, HX.out.2.1 rfl⟩
      have h16 : a.length ≤ 16 := by have := HK.out.1.2.1; omega
      clear HX
      go_enter Tryz.func48, Tryz.ntmps48
      go_wp2_with fail
      refine P1.mono ?_
      rintro e w1 ⟨rfl, rfl⟩
      go_wp2_with fail
      refine P2.mono ?_
      rintro e w1 ⟨rfl, rfl⟩
      clear P1 P2
      have hlb : b.length = a.length := Ve.alike_length HK.out
      go_wp2
      go_loopg [5] a.length (fun n iv wr => ∃ i : Nat, i + n = a.length ∧ iv = .int .i64 i ∧ (∀ j, j < i → a.getD j 0 ≤ b.getD j 0) ∧ Below w1.heap.size w1 wr ∧ wr.heap.size = w1.heap.size)
      case atStart => exact ⟨0, by omega, rfl, fun j hj => by omega, Below.refl _ _, rfl⟩
      case round =>
        obtain ⟨i, hin, rfl, hj, hbel, hsz⟩ := hrel
        have HJ : Hid (∀ j, j < i → a.getD j 0 ≤ b.getD j 0) := hj
        have HS : Hid (wr.heap.size = w1.heap.size) := hsz
        clear hj hsz
        by_cases hi : i < a.length
        · obtain ⟨bk, off, rfl, hb, hc⟩ := HA.out (by omega)
          obtain ⟨bk2, off2, rfl, hb2, hc2⟩ := HC.out (by omega)
          have hcx := (hbel.cell (p := ⟨bk, off + i, none⟩) (by exact hb)).trans (hc i hi)
          have hcy := (hbel.cell (p := ⟨bk2, off2 + i, none⟩) (by exact hb2)).trans (hc2 i (by omega))
          obtain ⟨x, hx⟩ : ∃ x, x = a.getD i 0 := ⟨_, rfl⟩
          obtain ⟨y, hy⟩ : ∃ y, y = b.getD i 0 := ⟨_, rfl⟩
          rw [← hx] at hcx
          rw [← hy] at hcy
          have HXY : Hid (x = a.getD i 0 ∧ y = b.getD i 0) := ⟨hx, hy⟩
          clear hc hc2 hx hy
          by_cases hok : x ≤ y
          · go_wp2
            go_region
            all_goals go_wp2
            all_goals go_roundg (gk - 1)
            case measure => omega
            case rel =>
              refine ⟨i + 1, by omega, by go_num, fun j hj => ?_, hbel.drew, HS.out⟩
              by_cases e : j = i
              · subst e; rw [← HXY.out.1, ← HXY.out.2]; exact hok
              · exact HJ.out j (by omega)
          · have hbf : r = false := by
              cases r with
              | false => rfl
              | true => exact absurd ((HB.out.1 rfl).2 i hi) (by rw [← HXY.out.1, ← HXY.out.2]; exact hok)
            subst hbf
            have hok2 : y < x := by omega
            go_wp2
            go_region
            all_goals go_wp2
            all_goals go_ret
            all_goals exact ⟨rfl, hbel.drew, HS.out⟩
        · have hbt : r = true := HB.out.2 ⟨HK.out, fun j hj => HJ.out j (by omega)⟩
          subst hbt
          have hd : decide ((i : Int) < (a.length : Int)) = false := by simp; omega
          go_wp2
          go_ret
          exact ⟨rfl, hbel, HS.out⟩

end Go.Proofs.YtgkddimijmnpcaaGreatDoor

