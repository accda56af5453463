/-
  Plain mathematics of layer 1: rows of bytes that are all from 128 on, and what stands behind them.
-/
import Derived.Test.YtgkddimijmnpcaaGreatDoorZViLong
namespace Go.Proofs.YtgkddimijmnpcaaGreatDoor.Vi
open Go.RowKit
set_option linter.unusedVariables false

def zF (c : Nat) : Nat → Nat
  | 0 => 1
  | n + 1 => 128 * zF c n + c

theorem zF_lt {c : Nat} (hc : c < 128) : ∀ n, zF c n < 2 * 128 ^ n
  | 0 => by simp [zF]
  | n + 1 => by
    have := zF_lt hc n
    have hp : 0 < (128 : Nat) ^ n := Nat.pow_pos (by omega)
    rw [Nat.pow_succ, zF]
    omega

theorem getF_high (f i y : Nat) (b : UInt8) (l : List UInt8) (hb : 128 ≤ b.toNat) : getF (f + 1) i y (b :: l) = getF f (i + 1) (y + b.toNat % 128 * 128 ^ i) l := by
  show (if _ then _ else _) = _
  rw [if_pos hb]

theorem getF_rep_cut (b : UInt8) (hb : 128 ≤ b.toNat) : ∀ (k f i y : Nat), k < f → getF f i y (List.replicate k b) = (0, 0, 100)
  | 0, f, i, y, h => by
    obtain ⟨g, rfl⟩ : ∃ g, f = g + 1 := ⟨f - 1, by omega⟩
    rfl
  | k + 1, f, i, y, h => by
    obtain ⟨g, rfl⟩ : ∃ g, f = g + 1 := ⟨f - 1, by omega⟩
    rw [List.replicate_succ, getF_high _ _ _ _ _ hb]
    exact getF_rep_cut b hb k g _ _ (by omega)

theorem getF_rep_long (b : UInt8) (hb : 128 ≤ b.toNat) : ∀ (f k i y : Nat) (l : List UInt8), f ≤ k → getF f i y (List.replicate k b ++ l) = (0, 0, 101)
  | 0, _, _, _, _, _ => rfl
  | f + 1, k, i, y, l, h => by
    obtain ⟨j, rfl⟩ : ∃ j, k = j + 1 := ⟨k - 1, by omega⟩
    rw [List.replicate_succ, List.cons_append, getF_high _ _ _ _ _ hb]
    exact getF_rep_long b hb f j _ _ l (by omega)

theorem getF_rep_zero (b : UInt8) (hb : 128 ≤ b.toNat) : ∀ (k f i y : Nat), k < f → 0 < i + k → getF f i y (List.replicate k b ++ [0]) = (0, 0, 101)
  | 0, f, i, y, h, hi => by
    obtain ⟨g, rfl⟩ : ∃ g, f = g + 1 := ⟨f - 1, by omega⟩
    show (if _ then _ else _) = _
    rw [if_neg (by decide), if_pos ⟨rfl, by omega⟩]
  | k + 1, f, i, y, h, hi => by
    obtain ⟨g, rfl⟩ : ∃ g, f = g + 1 := ⟨f - 1, by omega⟩
    rw [List.replicate_succ, List.cons_append, getF_high _ _ _ _ _ hb]
    exact getF_rep_zero b hb k g _ _ (by omega) (by omega)

theorem getF_rep_one (b : UInt8) (hb : 128 ≤ b.toNat) : ∀ (k f i y : Nat), k < f → getF f i y (List.replicate k b ++ [1]) = (y + zF (b.toNat % 128) k * 128 ^ i, i + k + 1, 0)
  | 0, f, i, y, h => by
    obtain ⟨g, rfl⟩ : ∃ g, f = g + 1 := ⟨f - 1, by omega⟩
    show (if _ then _ else _) = _
    rw [if_neg (by decide), if_neg (by simp)]
    rfl
  | k + 1, f, i, y, h => by
    obtain ⟨g, rfl⟩ : ∃ g, f = g + 1 := ⟨f - 1, by omega⟩
    rw [List.replicate_succ, List.cons_append, getF_high _ _ _ _ _ hb, getF_rep_one b hb k g _ _ (by omega)]
    simp only [Prod.mk.injEq]
    refine ⟨?_, by omega, trivial⟩
    have e : zF (b.toNat % 128) k * 128 ^ (i + 1) = 128 * zF (b.toNat % 128) k * 128 ^ i := by
      rw [Nat.pow_succ, Nat.mul_comm (128 ^ i) 128, ← Nat.mul_assoc, Nat.mul_comm (zF _ k) 128]
    rw [e, zF, Nat.add_mul]
    omega

theorem getI_zero (l : List UInt8) : getI l 0 = getAt l 0 := by
  unfold getI; rw [if_pos ⟨by omega, by omega⟩]; rfl

theorem getAt_of (l : List UInt8) {x k : Nat} (h : getF 9 0 0 l = (x, k, 0)) : getAt l 0 = (x, k, 0) := by
  unfold getAt get
  rw [List.drop_zero, h]
  simp

theorem getAt_err (l : List UInt8) {n : Nat} (h : getF 9 0 0 l = (0, 0, n + 1)) : getAt l 0 = (0, 0, n + 1) := by
  unfold getAt get
  rw [List.drop_zero, h]
  simp

theorem getI_out (l : List UInt8) (a : Int) (h : a < 0 ∨ l.length < a) : getI l a = (0, 0, 101) := by
  unfold getI; rw [if_neg (by omega)]

theorem join7 (z c : Nat) (hc : c < 128) (h : 128 * z + c < 9223372036854775808) : bits .or .i64 ((z : Int) * 128) (c : Int) = ((128 * z + c : Nat) : Int) := by
  have e : ((z : Int) * 128) = ((2 ^ 7 * z : Nat) : Int) := by omega
  rw [e, i64_or_join z c 7 (by omega) (by omega)]

theorem zF_small {c k : Nat} (hc : c < 128) (hk : k < 9) : 128 * zF c k + c < 9223372036854775808 ∨ 8 ≤ k := by
  rcases Nat.lt_or_ge k 8 with h | h
  · left
    have h1 := zF_lt hc (k + 1)
    have h2 : (128 : Nat) ^ (k + 1) ≤ 128 ^ 8 := Nat.pow_le_pow_right (by omega) (by omega)
    have e : (128 : Nat) ^ 8 = 72057594037927936 := by decide
    rw [zF] at h1
    omega
  · right; exact h

end Go.Proofs.YtgkddimijmnpcaaGreatDoor.Vi

