/-
  Package vec, by contracts: Has; the greater and the lesser (Max, Min, made and the two function literals).
-/
import Derived.Test.YtgkddimijmnpcaaGreatDoorZVec
namespace Go.Proofs.YtgkddimijmnpcaaGreatDoor
open Go.RowKit
set_option linter.unusedVariables false

theorem row_cell {w : World} {ao : Option Addr} {l : List Int} (h : RowAt w ao l) {i : Nat} (hi : i < l.length) : ∃ b off, ao = some ⟨b, off, none⟩ ∧ w.cell? ⟨b, off + i, none⟩ = some (.int .i64 (l.getD i 0)) := by
  obtain ⟨b, off, h1, _, h3⟩ := h (by omega)
  exact ⟨b, off, h1, h3 i hi⟩

set_option maxHeartbeats 400000 in
set_option maxRecDepth 100000 in
theorem has_any (ao : Option Addr) (cap : Nat) (l : List Int) (k s : Int) (w : World) (hr : RowAt w ao l) {b : Bool} (h : b = true ↔ Ve.Has l k s) :
    Calls Tryz.prog 125 #[.slice ao l.length cap, .agg #[.int .i64 k, .int .i64 s]] w fun e w' => e = .returned (.bool b) ∧ Below w.heap.size w w' := by
  have HB : Hid (b = true ↔ Ve.Has l k s) := h
  have hbel : ∀ o, Below w.heap.size w (w.alloc o) := fun o => ((Below.refl w.heap.size w).alloc (Nat.le_refl _) _)
  clear h
  by_cases hk : 0 ≤ k ∧ k < (l.length : Int)
  · obtain ⟨hk0, hk1⟩ := hk
    obtain ⟨j, rfl⟩ : ∃ j : Nat, k = (j : Int) := ⟨k.toNat, by omega⟩
    have hj : j < l.length := by omega
    obtain ⟨bk, off, rfl, hb, hc⟩ := hr (by omega)
    obtain ⟨x, hx⟩ : ∃ x, x = l.getD j 0 := ⟨_, rfl⟩
    have hcx := hc j hj
    rw [← hx] at hcx
    have hcy : ∀ o, (w.alloc o).cell? ⟨bk, off + j, none⟩ = some (.int .i64 x) := fun o => (World.cell?_alloc_past _ _ _ hb).trans hcx
    have HX : Hid (x = l.getD j 0) := hx
    clear hr hc hx
    have hbx : b = (decide (1 ≤ s) && decide (s ≤ x)) := by
      rw [Bool.eq_iff_iff, HB.out]
      simp [Ve.Has, HX.out, hj]
    subst hbx
    clear HB
    by_cases h1 : 1 ≤ s
    · by_cases h2 : s ≤ x
      · go_enter Tryz.func125, Tryz.ntmps125
        go_wp2
        go_region
        all_goals (try go_wp2)
        all_goals (go_ret; exact ⟨ret_bool (by simp; omega), (hbel _).drew⟩)
      · have h2' : x < s := by omega
        go_enter Tryz.func125, Tryz.ntmps125
        go_wp2
        go_region
        all_goals (try go_wp2)
        all_goals (go_ret; exact ⟨ret_bool (by simp; omega), (hbel _).drew⟩)
    · have h1' : s < 1 := by omega
      have hd : decide (1 ≤ s) = false := by simp; omega
      go_enter Tryz.func125, Tryz.ntmps125
      go_wp2
      go_region
      all_goals (try go_wp2)
      all_goals (go_ret; exact ⟨ret_bool (by simp; omega), (hbel _).drew⟩)
  · have hbf : b = false := by
      cases b with
      | false => rfl
      | true => exact absurd (HB.out.1 rfl) (fun h => hk ⟨h.1, h.2.1⟩)
    subst hbf
    clear HB hr
    by_cases h0 : k < 0
    · have hd : decide (0 ≤ k) = false := by simp; omega
      go_enter Tryz.func125, Tryz.ntmps125
      go_wp2
      go_region
      all_goals (try go_wp2)
      all_goals (go_ret; exact ⟨rfl, (hbel _).drew⟩)
    · have h1 : (l.length : Int) ≤ k := by omega
      have h2 : 0 ≤ k := by omega
      have hd : decide (k < (l.length : Int)) = false := by simp; omega
      go_enter Tryz.func125, Tryz.ntmps125
      go_wp2
      go_region
      all_goals (try go_wp2)
      all_goals (go_ret; exact ⟨rfl, (hbel _).drew⟩)

end Go.Proofs.YtgkddimijmnpcaaGreatDoor

