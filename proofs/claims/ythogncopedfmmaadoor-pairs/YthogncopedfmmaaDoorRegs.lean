/-
  What a law keeps in pairs of its own: their blocks and what they hold, from call to call. Small sums.
-/
import Derived.Test.YthogncopedfmmaaDoorAwake6
namespace Go.Proofs.YthogncopedfmmaaDoor
open Go.RowKit
set_option linter.unusedVariables false

/-- The blocks of the list hold its pairs. -/
def Reg (w : World) : List (Nat × Int × Int) → Prop
  | [] => True
  | e :: L => Two w e.1 e.2.1 e.2.2 ∧ Reg w L

theorem Reg.later {w w' : World} {L : List (Nat × Int × Int)} (h : Reg w L) (hb : Below w.heap.size w w') : Reg w' L := by
  induction L with
  | nil => trivial
  | cons e L ih => exact ⟨h.1.later hb, ih h.2⟩

theorem Reg.push {w : World} {L : List (Nat × Int × Int)} (h : Reg w L) {g : Nat} (hg : w.heap.size = g) (x y : Int) (t : TypeId) : Reg (w.alloc (.cells #[.int .i64 x, .int .i64 y] t)) ((g, x, y) :: L) :=
  ⟨hg ▸ two_new w x y t, h.later ((Below.refl _ _).alloc (Nat.le_refl _) _)⟩

/-- One call behind another, with a pair made between. -/
theorem thenA {w w1 w2 : World} {o : Obj} (h : Below w.heap.size w w1) (h2 : Below (w1.alloc o).heap.size (w1.alloc o) w2) : Below w.heap.size w w2 := thenB (thenB h ((Below.refl _ _).alloc (Nat.le_refl _) _)) h2

/-- Small sums may be. -/
theorem add_small {a b c d : Int} (ha : -2251799813685248 ≤ a ∧ a ≤ 2251799813685248) (hb : -2251799813685248 ≤ b ∧ b ≤ 2251799813685248) (hc : -2251799813685248 ≤ c ∧ c ≤ 2251799813685248) (hd : -2251799813685248 ≤ d ∧ d ≤ 2251799813685248) : addB a b c d = true := by
  simp [addB, pairB, partB]; omega

/-- Add at small pairs. -/
theorem gadd_small {a b c d : Int} (x y : Int) (hx : x = a + c) (hy : y = b + d) (ha : -2251799813685248 ≤ a ∧ a ≤ 2251799813685248) (hb : -2251799813685248 ≤ b ∧ b ≤ 2251799813685248) (hc : -2251799813685248 ≤ c ∧ c ≤ 2251799813685248) (hd : -2251799813685248 ≤ d ∧ d ≤ 2251799813685248) (w : World) :
    Calls Tryd.prog 9 #[pv a b, pv c d] w fun e w' => e = .returned (.tuple #[pv x y, .int .i64 0]) ∧ Below w.heap.size w w' := gadd_yes x y (add_small ha hb hc hd) hx hy w

/-- 'a % (MaxNum + 1)'. -/
theorem rem_num (a : Int) : ∃ x, a.tmod 1099511627777 = x ∧ -1099511627776 ≤ x ∧ x ≤ 1099511627776 := by
  refine ⟨_, rfl, ?_, ?_⟩
  · have := Int.tmod_lt_of_pos (-a) (b := 1099511627777) (by omega)
    rw [Int.neg_tmod] at this
    omega
  · have := Int.tmod_lt_of_pos a (b := 1099511627777) (by omega)
    omega

end Go.Proofs.YthogncopedfmmaaDoor
