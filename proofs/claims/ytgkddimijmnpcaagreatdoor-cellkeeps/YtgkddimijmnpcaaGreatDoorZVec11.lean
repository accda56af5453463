/-
  Package vec's May and Has, and the document's VecMay and Has, once more under names of their own, over rows told by their cells.
-/
import Derived.Test.YtgkddimijmnpcaaGreatDoorZIntRows
import Derived.Test.YtgkddimijmnpcaaGreatDoorZVe
import Derived.Test.YtgkddimijmnpcaaGreatDoorZPack1
import Derived.Deep.RegionHeld3
import Derived.Deep.QuietTactic
import Derived.Deep.LoopGhost
namespace Go.Proofs.YtgkddimijmnpcaaGreatDoor
open Go.RowKit
set_option linter.unusedVariables false

set_option maxHeartbeats 400000 in
set_option maxRecDepth 100000 in
theorem vmay_at (ao : Option Addr) (cap : Nat) (l : List Int) (n : Int) (w : World) (hr : RowAt w ao l) {b : Bool} (h : b = true ↔ Ve.May l n) :
    Calls Tryz.prog 41 #[.slice ao l.length cap, .int .i64 n] w fun e w' => e = .returned (.bool b) ∧ w' = w := by
  have HB : Hid (b = true ↔ Ve.May l n) := h
  have HR : Hid (RowAt w ao l) := hr
  clear h hr
  by_cases hn : 1 ≤ n ∧ n ≤ 16 ∧ (l.length : Int) = n
  · obtain ⟨h1, h16, hl⟩ := hn
    subst hl
    go_enter Tryz.func41, Tryz.ntmps41
    go_wp2
    go_loopg [19] l.length (fun n iv wr => ∃ i : Nat, i + n = l.length ∧ iv = .int .i64 i ∧ wr = w ∧ ∀ j, j < i → 0 ≤ l.getD j 0 ∧ l.getD j 0 ≤ 1048575)
    case atStart => exact ⟨0, by omega, rfl, rfl, fun j hj => by omega⟩
    case round =>
      obtain ⟨i, hin, rfl, rfl, hj⟩ := hrel
      have HJ : Hid (∀ j, j < i → 0 ≤ l.getD j 0 ∧ l.getD j 0 ≤ 1048575) := hj
      clear hj
      by_cases hi : i < l.length
      · obtain ⟨bk, off, rfl, hb, hc⟩ := HR.out (by omega)
        have hcx := hc i hi
        obtain ⟨x, hx⟩ : ∃ x, x = l.getD i 0 := ⟨_, rfl⟩
        rw [← hx] at hcx
        have HX : Hid (x = l.getD i 0) := hx
        clear hc hx
        by_cases hok : 0 ≤ x ∧ x ≤ 1048575
        · obtain ⟨hx0, hx1⟩ := hok
          go_wp2
          go_roundg (gk - 1)
          case measure => omega
          case rel =>
            refine ⟨i + 1, by omega, by go_num, rfl, fun j hj => ?_⟩
            by_cases e : j = i
            · subst e; rw [← HX.out]; exact ⟨hx0, hx1⟩
            · exact HJ.out j (by omega)
        · have hbf : b = false := by
            cases b with
            | false => rfl
            | true => exact absurd (HB.out.1 rfl) (fun h => hok (by rw [HX.out]; exact h.2.2.2 i hi))
          subst hbf
          by_cases hx0 : x < 0
          · go_wp2
            go_ret
            exact ⟨rfl, rfl⟩
          · have hx1 : 1048575 < x := by omega
            go_wp2
            go_ret
            exact ⟨rfl, rfl⟩
      · have hbt : b = true := HB.out.2 ⟨h1, h16, rfl, fun j hj => HJ.out j (by omega)⟩
        subst hbt
        have hd : decide ((i : Int) < (l.length : Int)) = false := by simp; omega
        go_wp2
        go_ret
        exact ⟨rfl, rfl⟩
  · have hbf : b = false := by
      cases b with
      | false => rfl
      | true => exact absurd (HB.out.1 rfl) (fun h => hn ⟨h.1, h.2.1, h.2.2.1⟩)
    subst hbf
    go_enter Tryz.func41, Tryz.ntmps41
    by_cases h1 : n < 1
    · go_wp2
      go_ret
      exact ⟨rfl, rfl⟩
    · by_cases h2 : 16 < n
      · go_wp2
        go_ret
        exact ⟨rfl, rfl⟩
      · have hd : ¬ ((l.length : Int) = n) := fun h => hn ⟨by omega, by omega, h⟩
        have hd2 : ((l.length : Int) != n) = true := by simpa using hd
        go_wp2
        go_ret
        exact ⟨rfl, rfl⟩

set_option maxHeartbeats 400000 in
set_option maxRecDepth 100000 in
theorem vhas_at (ao : Option Addr) (cap : Nat) (l : List Int) (k s : Int) (w : World) (hr : RowAt w ao l) {b : Bool} (h : b = true ↔ Ve.Has l k s) :
    Calls Tryz.prog 125 #[.slice ao l.length cap, .agg #[.int .i64 k, .int .i64 s]] w fun e w' => e = .returned (.bool b) ∧ Below w.heap.size w w' := by
  have HB : Hid (b = true ↔ Ve.Has l k s) := h
  have hbel : ∀ o, Below w.heap.size w (w.alloc o) := fun o => ((Below.refl w.heap.size w).alloc (Nat.le_refl _) _)
  clear h
  by_cases hk : 0 ≤ k ∧ k < (l.length : Int)
  · obtain ⟨hk0, hk1⟩ := hk
    obtain ⟨j, rfl⟩ : ∃ j : Nat, k = (j : Int) := ⟨k.toNat, by omega⟩
    have hj : j < l.length := by omega
    obtain ⟨bk, off, rfl, hb, hc⟩ := hr (by omega)
    obtain ⟨x, hx⟩ : ∃ x, x = l.getD j 0 := ⟨_, rfl⟩
    have hcx := hc j hj
    rw [← hx] at hcx
    have hcy : ∀ o, (w.alloc o).cell? ⟨bk, off + j, none⟩ = some (.int .i64 x) := fun o => (World.cell?_alloc_past _ _ _ hb).trans hcx
    have HX : Hid (x = l.getD j 0) := hx
    clear hr hc hx
    have hbx : b = (decide (1 ≤ s) && decide (s ≤ x)) := by
      rw [Bool.eq_iff_iff, HB.out]
      simp [Ve.Has, HX.out, hj]
    subst hbx
    clear HB
    by_cases h1 : 1 ≤ s
    · by_cases h2 : s ≤ x
      · go_enter Tryz.func125, Tryz.ntmps125
        go_wp2
        go_region
        all_goals (try go_wp2)
        all_goals (go_ret; exact ⟨ret_bool (by simp; omega), (hbel _).drew⟩)
      · have h2' : x < s := by omega
        go_enter Tryz.func125, Tryz.ntmps125
        go_wp2
        go_region
        all_goals (try go_wp2)
        all_goals (go_ret; exact ⟨ret_bool (by simp; omega), (hbel _).drew⟩)
    · have h1' : s < 1 := by omega
      have hd : decide (1 ≤ s) = false := by simp; omega
      go_enter Tryz.func125, Tryz.ntmps125
      go_wp2
      go_region
      all_goals (try go_wp2)
      all_goals (go_ret; exact ⟨ret_bool (by simp; omega), (hbel _).drew⟩)
  · have hbf : b = false := by
      cases b with
      | false => rfl
      | true => exact absurd (HB.out.1 rfl) (fun h => hk ⟨h.1, h.2.1⟩)
    subst hbf
    clear HB hr
    by_cases h0 : k < 0
    · have hd : decide (0 ≤ k) = false := by simp; omega
      go_enter Tryz.func125, Tryz.ntmps125
      go_wp2
      go_region
      all_goals (try go_wp2)
      all_goals (go_ret; exact ⟨rfl, (hbel _).drew⟩)
    · have h1 : (l.length : Int) ≤ k := by omega
      have h2 : 0 ≤ k := by omega
      have hd : decide (k < (l.length : Int)) = false := by simp; omega
      go_enter Tryz.func125, Tryz.ntmps125
      go_wp2
      go_region
      all_goals (try go_wp2)
      all_goals (go_ret; exact ⟨rfl, (hbel _).drew⟩)

set_option maxHeartbeats 400000 in
set_option maxRecDepth 100000 in
theorem vrefMay_at (ao : Option Addr) (cap : Nat) (l : List Int) (n : Int) (w : World) (hr : RowAt w ao l) (hl : l.length ≤ maxLen) {b : Bool} (h : b = true ↔ Ve.May l n) :
    Calls Tryz.prog 43 #[.slice ao l.length cap, .int .i64 n] w fun e w' => e = .returned (.bool b) ∧ w' = w := by
  have HB : Hid (b = true ↔ Ve.May l n) := h
  have HR : Hid (RowAt w ao l) := hr
  clear h hr
  unfold maxLen at hl
  go_enter Tryz.func43, Tryz.ntmps43
  go_wp2
  go_loopg [5] l.length (fun n iv wr => ∃ i : Nat, i + n = l.length ∧ iv = .int .i64 i ∧ wr = w ∧ ∀ j, j < i → 0 ≤ l.getD j 0 ∧ l.getD j 0 ≤ 1048575)
  case atStart => exact ⟨0, by omega, rfl, rfl, fun j hj => by omega⟩
  case round =>
    obtain ⟨i, hin, rfl, rfl, hj⟩ := hrel
    have HJ : Hid (∀ j, j < i → 0 ≤ l.getD j 0 ∧ l.getD j 0 ≤ 1048575) := hj
    clear hj
    by_cases hi : i < l.length
    · obtain ⟨bk, off, rfl, hb, hc⟩ := HR.out (by omega)
      have hcx := hc i hi
      obtain ⟨x, hx⟩ : ∃ x, x = l.getD i 0 := ⟨_, rfl⟩
      rw [← hx] at hcx
      have HX : Hid (x = l.getD i 0) := hx
      clear hc hx
      by_cases hok : 0 ≤ x ∧ x ≤ 1048575
      · obtain ⟨hx0, hx1⟩ := hok
        go_wp2
        go_roundg (gk - 1)
        case measure => omega
        case rel =>
          refine ⟨i + 1, by omega, by go_num, rfl, fun j hj => ?_⟩
          by_cases e : j = i
          · subst e; rw [← HX.out]; exact ⟨hx0, hx1⟩
          · exact HJ.out j (by omega)
      · have hbf : b = false := by
          cases b with
          | false => rfl
          | true => exact absurd (HB.out.1 rfl) (fun h => hok (by rw [HX.out]; exact h.2.2.2 i hi))
        subst hbf
        by_cases hx0 : x < 0
        · go_wp2
          go_ret
          exact ⟨rfl, rfl⟩
        · have hx1 : 1048575 < x := by omega
          go_wp2
          go_ret
          exact ⟨rfl, rfl⟩
    · have hd : decide ((i : Int) < (l.length : Int)) = false := by simp; omega
      have hbt : b = (decide (1 ≤ n) && decide (n ≤ 16) && ((l.length : Int) == n)) := by
        rw [Bool.eq_iff_iff, HB.out]
        simp only [Bool.and_eq_true, decide_eq_true_eq, beq_iff_eq]
        exact ⟨fun h => ⟨⟨h.1, h.2.1⟩, h.2.2.1⟩, fun h => ⟨h.1.1, h.1.2, h.2, fun j hj => HJ.out j (by omega)⟩⟩
      subst hbt
      clear HB
      cases h1 : decide (1 ≤ n) with
      | false =>
        go_wp2
        go_ret
        exact ⟨ret_bool (by simp [h1]), rfl⟩
      | true =>
        cases h2 : decide (n ≤ 16) with
        | false =>
          go_wp2
          go_ret
          exact ⟨ret_bool (by simp [h1, h2]), rfl⟩
        | true =>
          cases h3 : ((l.length : Int) == n) with
          | false =>
            go_wp2
            go_ret
            exact ⟨ret_bool (by simp [h1, h2, h3]), rfl⟩
          | true =>
            go_wp2
            go_ret
            exact ⟨ret_bool (by simp [h1, h2, h3]), rfl⟩

set_option maxHeartbeats 400000 in
set_option maxRecDepth 100000 in
theorem vrefHas_at (ao : Option Addr) (cap : Nat) (l : List Int) (k s : Int) (w : World) (hr : RowAt w ao l) {b : Bool} (h : b = true ↔ Ve.Has l k s) :
    Calls Tryz.prog 70 #[.slice ao l.length cap, .agg #[.int .i64 k, .int .i64 s]] w fun e w' => e = .returned (.bool b) ∧ Below w.heap.size w w' := by
  have HB : Hid (b = true ↔ Ve.Has l k s) := h
  have hbel : ∀ o, Below w.heap.size w (w.alloc o) := fun o => ((Below.refl w.heap.size w).alloc (Nat.le_refl _) _)
  clear h
  by_cases hk : 0 ≤ k ∧ k < (l.length : Int)
  · obtain ⟨hk0, hk1⟩ := hk
    obtain ⟨j, rfl⟩ : ∃ j : Nat, k = (j : Int) := ⟨k.toNat, by omega⟩
    have hj : j < l.length := by omega
    obtain ⟨bk, off, rfl, hb, hc⟩ := hr (by omega)
    obtain ⟨x, hx⟩ : ∃ x, x = l.getD j 0 := ⟨_, rfl⟩
    have hcx := hc j hj
    rw [← hx] at hcx
    have hcy : ∀ o, (w.alloc o).cell? ⟨bk, off + j, none⟩ = some (.int .i64 x) := fun o => (World.cell?_alloc_past _ _ _ hb).trans hcx
    have HX : Hid (x = l.getD j 0) := hx
    clear hr hc hx
    have hbx : b = (decide (1 ≤ s) && decide (s ≤ x)) := by
      rw [Bool.eq_iff_iff, HB.out]
      simp [Ve.Has, HX.out, hj]
    subst hbx
    clear HB
    by_cases h1 : 1 ≤ s
    · by_cases h2 : s ≤ x
      · go_enter Tryz.func70, Tryz.ntmps70
        go_wp2
        go_region
        all_goals (try go_wp2)
        all_goals (go_ret; exact ⟨ret_bool (by simp; omega), (hbel _).drew⟩)
      · have h2' : x < s := by omega
        go_enter Tryz.func70, Tryz.ntmps70
        go_wp2
        go_region
        all_goals (try go_wp2)
        all_goals (go_ret; exact ⟨ret_bool (by simp; omega), (hbel _).drew⟩)
    · have h1' : s < 1 := by omega
      have hd : decide (1 ≤ s) = false := by simp; omega
      go_enter Tryz.func70, Tryz.ntmps70
      go_wp2
      go_region
      all_goals (try go_wp2)
      all_goals (go_ret; exact ⟨ret_bool (by simp; omega), (hbel _).drew⟩)
  · have hbf : b = false := by
      cases b with
      | false => rfl
      | true => exact absurd (HB.out.1 rfl) (fun h => hk ⟨h.1, h.2.1⟩)
    subst hbf
    clear HB hr
    by_cases h0 : k < 0
    · have hd : decide (0 ≤ k) = false := by simp; omega
      go_enter Tryz.func70, Tryz.ntmps70
      go_wp2
      go_region
      all_goals (try go_wp2)
      all_goals (go_ret; exact ⟨rfl, (hbel _).drew⟩)
    · have h1 : (l.length : Int) ≤ k := by omega
      have h2 : 0 ≤ k := by omega
      have hd : decide (k < (l.length : Int)) = false := by simp; omega
      go_enter Tryz.func70, Tryz.ntmps70
      go_wp2
      go_region
      all_goals (try go_wp2)
      all_goals (go_ret; exact ⟨rfl, (hbel _).drew⟩)

theorem rowAt_of {w : World} {ao : Option Addr} {l : List Int} (h : FRow w ao (flatI l)) : RowAt w ao l := fun h0 => by
  obtain ⟨b, off, e, hb, hc⟩ := h (by rw [flatI_len]; omega)
  refine ⟨b, off, e, hb, fun i hi => hc i _ ?_⟩
  simp [flatI, List.getD, List.getElem?_eq_getElem hi]

/-- May it be a vector? -/
def vecB (l : List Int) (n : Int) : Bool := decide (1 ≤ n ∧ n ≤ 16 ∧ (l.length : Int) = n) && l.all fun x => decide (0 ≤ x ∧ x ≤ 1048575)
/-- Has it come as far? -/
def hasB (l : List Int) (d : D2) : Bool := decide (0 ≤ d.1 ∧ d.1 < l.length ∧ 1 ≤ d.2 ∧ d.2 ≤ l.getD d.1.toNat 0)
theorem vecB_iff (l : List Int) (n : Int) : vecB l n = true ↔ Ve.May l n := by
  unfold vecB Ve.May
  simp only [Bool.and_eq_true, decide_eq_true_eq, List.all_eq_true]
  constructor
  · rintro ⟨⟨h1, h2, h3⟩, h4⟩
    refine ⟨h1, h2, h3, fun i hi => ?_⟩
    have := h4 (l.getD i 0) (by simp [List.getD, List.getElem?_eq_getElem hi])
    exact this
  · rintro ⟨h1, h2, h3, h4⟩
    refine ⟨⟨h1, h2, h3⟩, fun x hx => ?_⟩
    obtain ⟨i, hi, rfl⟩ := List.getElem_of_mem hx
    have := h4 i hi
    simpa [List.getD, List.getElem?_eq_getElem hi] using this
theorem hasB_iff (l : List Int) (d : D2) : hasB l d = true ↔ Ve.Has l d.1 d.2 := by
  unfold hasB Ve.Has
  simp

theorem vmay_any (ao : Option Addr) (ca : Nat) (l : List Int) (n : Int) (w : World) (hr : FRow w ao (flatI l)) :
    Calls Tryz.prog 41 #[.slice ao l.length ca, .int .i64 n] w fun e w' => e = .returned (.bool (vecB l n)) ∧ w' = w := vmay_at ao ca l n w (rowAt_of hr) (vecB_iff l n)
theorem vhas_any (ao : Option Addr) (ca : Nat) (l : List Int) (d : D2) (w : World) (hr : FRow w ao (flatI l)) :
    Calls Tryz.prog 125 #[.slice ao l.length ca, .agg #[.int .i64 d.1, .int .i64 d.2]] w fun e w' => e = .returned (.bool (hasB l d)) ∧ Below w.heap.size w w' := vhas_at ao ca l d.1 d.2 w (rowAt_of hr) (hasB_iff l d)
theorem vrefMay_any (ao : Option Addr) (ca : Nat) (l : List Int) (n : Int) (w : World) (hr : FRow w ao (flatI l)) (hl : l.length ≤ maxLen) :
    Calls Tryz.prog 43 #[.slice ao l.length ca, .int .i64 n] w fun e w' => e = .returned (.bool (vecB l n)) ∧ w' = w := vrefMay_at ao ca l n w (rowAt_of hr) hl (vecB_iff l n)
theorem vrefHas_any (ao : Option Addr) (ca : Nat) (l : List Int) (d : D2) (w : World) (hr : FRow w ao (flatI l)) :
    Calls Tryz.prog 70 #[.slice ao l.length ca, .agg #[.int .i64 d.1, .int .i64 d.2]] w fun e w' => e = .returned (.bool (hasB l d)) ∧ Below w.heap.size w w' := vrefHas_at ao ca l d.1 d.2 w (rowAt_of hr) (hasB_iff l d)

end Go.Proofs.YtgkddimijmnpcaaGreatDoor

