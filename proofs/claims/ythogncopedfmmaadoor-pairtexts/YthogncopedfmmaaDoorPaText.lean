/-
  Plain mathematics of pairs' texts: no two pairs have one text.
-/
import Derived.Test.YthogncopedfmmaaDoorGauText
namespace Go.Proofs.YthogncopedfmmaaDoor
open Go.RowKit
set_option linter.unusedVariables false

def isDig (b : UInt8) : Bool := decide (48 ≤ b.toNat) && decide (b.toNat ≤ 57)

theorem dig_one (k : Nat) (h : k < 10) : isDig (UInt8.ofNat (48 + k)) = true ∧ (UInt8.ofNat (48 + k)).toNat - 48 = k := by
  have e : (UInt8.ofNat (48 + k)).toNat = 48 + k := by rw [UInt8.toNat_ofNat']; omega
  unfold isDig
  rw [e]
  constructor
  · simp; omega
  · omega

/-- The number that digits tell. -/
def valOf (l : List UInt8) : Nat := l.foldl (fun n b => n * 10 + (b.toNat - 48)) 0

theorem valOf_snoc (l : List UInt8) (b : UInt8) : valOf (l ++ [b]) = valOf l * 10 + (b.toNat - 48) := by simp [valOf, List.foldl_append]

theorem digits_all (u : Nat) : (∀ b ∈ Lib.decDigits u, isDig b = true) ∧ valOf (Lib.decDigits u) = u ∧ Lib.decDigits u ≠ [] := by
  induction u using Nat.strongRecOn with
  | _ u ih =>
    rw [Lib.decDigits]
    by_cases h : u < 10
    · rw [dif_pos h]
      have := dig_one u h
      refine ⟨fun b hb => ?_, ?_, by simp⟩
      · rw [List.mem_singleton] at hb; rw [hb]; exact this.1
      · simp only [valOf, List.foldl_cons, List.foldl_nil, Nat.zero_mul, Nat.zero_add]; exact this.2
    · rw [dif_neg h]
      have h1 := ih (u / 10) (by omega)
      have h2 := dig_one (u % 10) (by omega)
      refine ⟨fun b hb => ?_, ?_, by simp⟩
      · simp only [List.mem_append, List.mem_singleton] at hb
        rcases hb with hb | hb
        · exact h1.1 b hb
        · rw [hb]; exact h2.1
      · rw [valOf_snoc, h1.2.1, h2.2]; omega

theorem digits_inj {u v : Nat} (h : Lib.decDigits u = Lib.decDigits v) : u = v := by
  rw [← (digits_all u).2.1, ← (digits_all v).2.1, h]

/-- It begins with no digit. -/
def NoDig (l : List UInt8) : Prop := ∀ b r, l = b :: r → isDig b = false

theorem split_digits : ∀ {a b r s : List UInt8}, (∀ x ∈ a, isDig x = true) → (∀ x ∈ b, isDig x = true) → NoDig r → NoDig s → a ++ r = b ++ s → a = b ∧ r = s
  | [], [], r, s, _, _, _, _, h => ⟨rfl, h⟩
  | [], y :: b, r, s, _, hb, hr, _, h => by
    have := hr y (b ++ s) h
    rw [hb y (by simp)] at this
    exact absurd this (by simp)
  | x :: a, [], r, s, ha, _, _, hs, h => by
    have := hs x (a ++ r) h.symm
    rw [ha x (by simp)] at this
    exact absurd this (by simp)
  | x :: a, y :: b, r, s, ha, hb, hr, hs, h => by
    simp only [List.cons_append, List.cons.injEq] at h
    obtain ⟨rfl, h⟩ := h
    have := split_digits (fun z hz => ha z (by simp [hz])) (fun z hz => hb z (by simp [hz])) hr hs h
    exact ⟨by rw [this.1], this.2⟩

theorem noDig_im (y : Int) : NoDig (imText y) := by
  intro b r h
  unfold imText at h
  by_cases h0 : y = 0
  · rw [if_pos h0] at h; simp at h
  · rw [if_neg h0] at h
    by_cases h1 : 0 < y
    · rw [if_pos h1] at h
      simp only [List.cons_append, List.nil_append, List.cons.injEq] at h
      rw [← h.1]; decide
    · rw [if_neg h1, itoa_below (by omega)] at h
      simp only [List.cons_append, List.nil_append, List.cons.injEq] at h
      rw [← h.1]; decide

theorem im_inj {y z : Int} (h : imText y = imText z) : y = z := by
  unfold imText at h
  by_cases hy : y = 0
  · by_cases hz : z = 0
    · omega
    · rw [if_pos hy, if_neg hz] at h
      by_cases h1 : 0 < z
      · rw [if_pos h1] at h; simp at h
      · rw [if_neg h1, itoa_below (by omega)] at h; simp at h
  · rw [if_neg hy] at h
    by_cases hz : z = 0
    · rw [if_pos hz] at h
      by_cases h1 : 0 < y
      · rw [if_pos h1] at h; simp at h
      · rw [if_neg h1, itoa_below (by omega)] at h; simp at h
    · rw [if_neg hz] at h
      by_cases h1 : 0 < y
      · by_cases h2 : 0 < z
        · rw [if_pos h1, if_pos h2, itoa_pos (by omega), itoa_pos (by omega)] at h
          simp only [List.cons_append, List.nil_append, List.cons.injEq, true_and, List.append_cancel_right_eq] at h
          have := digits_inj h
          omega
        · rw [if_pos h1, if_neg h2, itoa_below (x := z) (by omega)] at h
          simp only [List.cons_append, List.nil_append, List.cons.injEq] at h
          exact absurd h.1 (by decide)
      · by_cases h2 : 0 < z
        · rw [if_neg h1, if_pos h2, itoa_below (x := y) (by omega)] at h
          simp only [List.cons_append, List.nil_append, List.cons.injEq] at h
          exact absurd h.1 (by decide)
        · rw [if_neg h1, if_neg h2, itoa_below (x := y) (by omega), itoa_below (x := z) (by omega)] at h
          simp only [List.cons_append, List.nil_append, List.cons.injEq, true_and, List.append_cancel_right_eq] at h
          have := digits_inj h
          omega

theorem minus_digits {u : Nat} {r s : List UInt8} (h : 45 :: r = Lib.decDigits u ++ s) : False := by
  have hd := digits_all u
  cases hu : Lib.decDigits u with
  | nil => exact hd.2.2 hu
  | cons b l =>
    rw [hu] at h
    simp only [List.cons_append, List.cons.injEq] at h
    have := hd.1 b (by rw [hu]; simp)
    rw [← h.1] at this
    exact absurd this (by decide)

/-- No two pairs have one text. -/
theorem ptext_inj {x y a b : Int} (h : ptext x y = ptext a b) : x = a ∧ y = b := by
  unfold ptext at h
  by_cases hx : x < 0
  · by_cases ha : a < 0
    · rw [itoa_below hx, itoa_below ha] at h
      simp only [List.cons_append, List.cons.injEq, true_and] at h
      have s := split_digits (digits_all _).1 (digits_all _).1 (noDig_im y) (noDig_im b) h
      have := digits_inj s.1
      exact ⟨by omega, im_inj s.2⟩
    · rw [itoa_below hx, itoa_pos (by omega)] at h
      exact absurd h (fun h => minus_digits h)
  · by_cases ha : a < 0
    · rw [itoa_below ha, itoa_pos (by omega)] at h
      exact absurd h.symm (fun h => minus_digits h)
    · rw [itoa_pos (by omega), itoa_pos (by omega)] at h
      have s := split_digits (digits_all _).1 (digits_all _).1 (noDig_im y) (noDig_im b) h
      have := digits_inj s.1
      exact ⟨by omega, im_inj s.2⟩

end Go.Proofs.YthogncopedfmmaaDoor
