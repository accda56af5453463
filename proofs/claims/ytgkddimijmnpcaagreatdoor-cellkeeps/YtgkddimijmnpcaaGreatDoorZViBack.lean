/-
  Plain mathematics of layer 1: what is put comes back; what is cut does not.
-/
import Derived.Test.YtgkddimijmnpcaaGreatDoorZViForms
namespace Go.Proofs.YtgkddimijmnpcaaGreatDoor.Vi
open Go.RowKit
set_option linter.unusedVariables false

theorem byte_high (x : Nat) : (UInt8.ofNat (x % 128 + 128)).toNat = x % 128 + 128 := by
  rw [UInt8.toNat_ofNat']; omega

theorem byte_low {x : Nat} (h : x < 128) : (UInt8.ofNat x).toNat = x := by
  rw [UInt8.toNat_ofNat']; omega

theorem getF_put : ∀ (f x i y : Nat) (r : List UInt8), x < 128 ^ f → 0 < x ∨ i = 0 → 0 < f → getF f i y (putF f x ++ r) = (y + x * 128 ^ i, i + (putF f x).length, 0)
  | 0, _, _, _, _, _, _, h => by omega
  | f + 1, x, i, y, r, hx, hi, _ => by
    by_cases h : x < 128
    · rw [putF_last (by omega) (by omega)]
      show (if _ then _ else _) = _
      rw [byte_low h, if_neg (by omega), if_neg (by omega), Nat.mod_eq_of_lt h]
      rfl
    · obtain ⟨h0, h1, h2⟩ := putF_more hx (by omega) (show 128 ≤ x by omega)
      have e : f + 1 - 1 = f := by omega
      rw [e] at h0 h1 h2
      have hd : x / 128 * 128 ^ (i + 1) + x % 128 * 128 ^ i = x * 128 ^ i := by
        rw [Nat.pow_succ, Nat.mul_comm (128 ^ i) 128, ← Nat.mul_assoc, ← Nat.add_mul]
        congr 1; omega
      rw [h2, List.cons_append, getF_high _ _ _ _ _ (by rw [byte_high]; omega), getF_put f (x / 128) (i + 1) _ r h1 (.inl (by omega)) h0, byte_high]
      simp only [Prod.mk.injEq, List.length_cons]
      refine ⟨?_, by omega, trivial⟩
      rw [show (x % 128 + 128) % 128 = x % 128 by omega]
      omega

theorem putF_ne (f x : Nat) (hf : 0 < f) : putF f x ≠ [] := by
  obtain ⟨g, rfl⟩ : ∃ g, f = g + 1 := ⟨f - 1, by omega⟩
  unfold putF
  split <;> simp

theorem getF_put_cut : ∀ (f x i y : Nat), x < 128 ^ f → 0 < f → getF f i y (putF f x).dropLast = (0, 0, 100)
  | 0, _, _, _, _, h => by omega
  | f + 1, x, i, y, hx, _ => by
    by_cases h : x < 128
    · rw [putF_last (by omega) (by omega)]; rfl
    · obtain ⟨h0, h1, h2⟩ := putF_more hx (by omega) (show 128 ≤ x by omega)
      have e : f + 1 - 1 = f := by omega
      rw [e] at h0 h1 h2
      rw [h2, List.dropLast_cons_of_ne_nil (putF_ne f _ h0), getF_high _ _ _ _ _ (by rw [byte_high]; omega)]
      exact getF_put_cut f _ _ _ h1 h0

theorem pow9 : (128 : Nat) ^ 9 = 9223372036854775808 := by decide

theorem getI_put (l : List UInt8) (x : Nat) (r : List UInt8) (hx : x < 9223372036854775808) :
    getI (l ++ (put x ++ r)) (l.length : Int) = (x, l.length + (put x).length, 0) := by
  unfold getI
  rw [if_pos ⟨by omega, by simp; omega⟩, Int.toNat_natCast]
  have hg : get (List.drop l.length (l ++ (put x ++ r))) = (x, (put x).length, 0) := by
    rw [List.drop_left]
    unfold get put
    rw [getF_put 9 x 0 0 r (by rw [pow9]; exact hx) (.inr rfl) (by omega)]
    simp
  unfold getAt
  rw [hg]
  rfl

theorem getText_put (l t r : List UInt8) (ht : t.length ≤ 65536) :
    getText (l ++ ((put t.length ++ t) ++ r)) (l.length : Int) = (t, l.length + (put t.length).length + t.length, 0) := by
  have hg := getI_put l t.length (t ++ r) (by omega)
  have e : l ++ ((put t.length ++ t) ++ r) = (l ++ put t.length) ++ (t ++ r) := by simp
  have e2 : l ++ (put t.length ++ (t ++ r)) = (l ++ put t.length) ++ (t ++ r) := by simp
  rw [e2] at hg
  rw [e]
  unfold getText
  rw [hg]
  simp only
  rw [if_pos trivial, if_neg (by omega), if_neg (by simp; omega)]
  have hd : List.drop (l.length + (put t.length).length) ((l ++ put t.length) ++ (t ++ r)) = t ++ r := by
    rw [← List.length_append, List.drop_left]
  rw [hd, List.take_left]

theorem putText_small (t : List UInt8) (ht : t.length ≤ 65536) : putText t = (put t.length ++ t, 0) := by
  unfold putText
  rw [if_neg (by omega)]

theorem put_zero : put 0 = [0] := by decide

theorem getText_cut (t : List UInt8) (ht : t.length ≤ 65536) : getText (put t.length ++ t).dropLast 0 = ([], 0, 100) := by
  by_cases h : t = []
  · subst h; decide
  · rw [List.dropLast_append_of_ne_nil h]
    have hg := getI_put [] t.length t.dropLast (by omega)
    simp only [List.nil_append, List.length_nil, Nat.zero_add] at hg
    have hg' : getI (put t.length ++ t.dropLast) 0 = (t.length, (put t.length).length, 0) := hg
    unfold getText
    rw [hg']
    simp only
    have hl : 0 < t.length := List.length_pos_iff.2 h
    rw [if_pos trivial, if_neg (by omega), if_pos (by simp; omega)]

theorem get_cut (x : Nat) (hx : x < 9223372036854775808) : getI (put x).dropLast 0 = (0, 0, 100) := by
  rw [getI_zero]
  exact getAt_err _ (getF_put_cut 9 x 0 0 (by rw [pow9]; exact hx) (by omega))

theorem put_ne (x : Nat) : put x ≠ [] := putF_ne 9 x (by omega)

end Go.Proofs.YtgkddimijmnpcaaGreatDoor.Vi

