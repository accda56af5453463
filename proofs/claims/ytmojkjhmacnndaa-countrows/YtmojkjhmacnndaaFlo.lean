/-
  Plain mathematics of whole numbers in floats of 64 bits: a whole number of at most 53 binary digits is exact there, and so are sums that stay so. No program in it.
-/
import Derived.Laws.FloatArith
namespace Go.Proofs.Ytmojkjhmacnndaa.Flo
set_option linter.unusedVariables false
open Ieee

/-- The leading 53 digits of n. -/
def kept (n : Nat) : Nat := n * 2 ^ 52 / 2 ^ n.log2

theorem log2_le {n : Nat} (h : n ≤ 2 ^ 53) (h0 : n ≠ 0) : n.log2 ≤ 53 := by
  have h1 : n.log2 < 54 := (Nat.log2_lt h0).2 (by omega)
  omega

theorem pow_split {a b : Nat} (h : a ≤ b) : 2 ^ b = 2 ^ a * 2 ^ (b - a) := by
  rw [← Nat.pow_add]; congr 1; omega

theorem kept_small {n : Nat} (h0 : n ≠ 0) (h : n.log2 ≤ 52) : kept n = n * 2 ^ (52 - n.log2) := by
  unfold kept
  rw [pow_split h, Nat.mul_left_comm]
  exact Nat.mul_div_cancel_left _ (Nat.two_pow_pos _)

theorem log2_53 {n : Nat} (h : n ≤ 2 ^ 53) (h0 : n ≠ 0) (h1 : ¬ n.log2 ≤ 52) : n = 2 ^ 53 := by
  have h2 := log2_le h h0
  have h3 : n.log2 = 53 := by omega
  have h4 := Nat.log2_self_le h0
  rw [h3] at h4
  omega

theorem kept_top : kept (2 ^ 53) = 2 ^ 52 := by
  have : (2 ^ 53 : Nat).log2 = 53 := by decide +kernel
  unfold kept; rw [this]

theorem kept_bounds {n : Nat} (h : n ≤ 2 ^ 53) (h0 : n ≠ 0) : 2 ^ 52 ≤ kept n ∧ kept n < 2 ^ 53 := by
  by_cases h1 : n.log2 ≤ 52
  · rw [kept_small h0 h1]
    have a := Nat.log2_self_le h0
    have b := Nat.lt_log2_self (n := n)
    constructor
    · rw [pow_split h1]; exact Nat.mul_le_mul_right _ a
    · have : (2 : Nat) ^ 53 = 2 ^ (n.log2 + 1) * 2 ^ (52 - n.log2) := by rw [← Nat.pow_add]; congr 1; omega
      rw [this]; exact Nat.mul_lt_mul_of_pos_right b (Nat.two_pow_pos _)
  · rw [log2_53 h h0 h1, kept_top]; decide

theorem double_read (s : Bool) (l k : Nat) (hl : l ≤ 53) (hk : 4503599627370496 ≤ k ∧ k < 9007199254740992) :
    double.read (double.word s ((l + 1022) * 4503599627370496 + k)) = .number s k ((l : Int) - 52) := by
  obtain ⟨hk1, hk2⟩ := hk
  have hsw : double.signWeight = 9223372036854775808 := by decide +kernel
  have hb : double.binade = 4503599627370496 := by decide +kernel
  have hi : double.infRung = 9218868437227405312 := by decide +kernel
  have hp : double.leastPlace = -1074 := by decide +kernel
  generalize hr : (l + 1022) * 4503599627370496 + k = r
  have hneg : (double.word s r / double.signWeight % 2 == 1) = s := by
    unfold Format.word
    rw [hsw]
    cases s
    · have : r / 9223372036854775808 % 2 = 0 := by omega
      simp [this]
    · have : (9223372036854775808 + r) / 9223372036854775808 % 2 = 1 := by omega
      simp only [if_pos, this]; rfl
  have hrung : double.word s r % double.signWeight = r := by
    unfold Format.word
    rw [hsw]
    cases s <;> simp <;> omega
  unfold Format.read
  simp only [hneg, hrung, hb, hi, hp]
  clear hneg hrung hsw hb hi hp
  have e1 : ¬ r < 4503599627370496 := by omega
  have e2 : r < 9218868437227405312 := by omega
  have e0 : r % 4503599627370496 + 4503599627370496 = k := by
    have := Nat.mod_eq_of_lt (show k - 4503599627370496 < 4503599627370496 by omega)
    have e : r = (k - 4503599627370496) + 4503599627370496 * (l + 1023) := by omega
    rw [e, Nat.add_mul_mod_self_left, this]
    omega
  have e3 : 4503599627370496 + r % 4503599627370496 = k := by rw [Nat.add_comm]; exact e0
  have e4 : (-1074 : Int) + ((r / 4503599627370496 - 1 : Nat) : Int) = (l : Int) - 52 := by omega
  rw [if_neg e1, if_pos e2, e3, e4]

theorem double_read_zero (s : Bool) : double.read (double.word s 0) = .number s 0 (-1074) := by
  cases s <;> decide +kernel

/-- Cut where nothing is lost. -/
theorem cut_exact (way : Toward) (neg : Bool) (q d : Nat) (h0 : q ≠ 0) : way.cut neg (q * 2 ^ d) d = q := by
  have hpos : 0 < 2 ^ d := Nat.two_pow_pos _
  have hl : d ≤ (q * 2 ^ d).log2 + 2 := by
    have h1 : q * 2 ^ d ≠ 0 := Nat.mul_ne_zero h0 (by omega)
    have h2 : d ≤ (q * 2 ^ d).log2 := (Nat.le_log2 h1).2 (Nat.le_mul_of_pos_left _ (by omega))
    omega
  have hm : min d ((q * 2 ^ d).log2 + 2) = d := by omega
  have hq : q * 2 ^ d / 2 ^ d = q := Nat.mul_div_cancel _ hpos
  have hr : q * 2 ^ d % 2 ^ d = 0 := Nat.mul_mod_left _ _
  unfold Toward.cut
  simp only [hm, Nat.one_shiftLeft, hq, hr]
  have e : (2 ^ d == 2 * 0) = false := by simp
  cases way <;> simp [e]

theorem log2_mul_pow {n : Nat} (h0 : n ≠ 0) (k : Nat) : (n * 2 ^ k).log2 = n.log2 + k := by
  have h1 : n * 2 ^ k ≠ 0 := Nat.mul_ne_zero h0 (by have := Nat.two_pow_pos k; omega)
  have a : n.log2 + k ≤ (n * 2 ^ k).log2 := (Nat.le_log2 h1).2 (by
    rw [Nat.pow_add]; exact Nat.mul_le_mul_right _ (Nat.log2_self_le h0))
  have b : (n * 2 ^ k).log2 < n.log2 + k + 1 := (Nat.log2_lt h1).2 (by
    have : 2 ^ (n.log2 + k + 1) = 2 ^ (n.log2 + 1) * 2 ^ k := by rw [← Nat.pow_add]; congr 1; omega
    rw [this]; exact Nat.mul_lt_mul_of_pos_right Nat.lt_log2_self (Nat.two_pow_pos _))
  omega

/-- The word of 'n', written as 'n * 2 ^ k' at place '-k'. -/
theorem nearest_whole (s : Bool) (n k : Nat) (h : n ≤ 9007199254740992) (h0 : n ≠ 0) (hk : k ≤ 1074) :
    double.nearest s (n * 2 ^ k) (-(k : Int)) = double.word s ((n.log2 + 1022) * 4503599627370496 + kept n) := by
  have hb : double.binade = 4503599627370496 := by decide +kernel
  have hi : double.infRung = 9218868437227405312 := by decide +kernel
  have hp : double.leastPlace = -1074 := by decide +kernel
  have hf : double.fractionBits = 52 := rfl
  have h1 : n * 2 ^ k ≠ 0 := Nat.mul_ne_zero h0 (by have := Nat.two_pow_pos k; omega)
  have hL := log2_le (n := n) (by omega) h0
  obtain ⟨hk1, hk2⟩ := kept_bounds (n := n) (by omega) h0
  have hlast : max (-(k : Int) + ((n * 2 ^ k).log2 : Nat) - (double.fractionBits : Nat)) double.leastPlace = (n.log2 : Int) - 52 := by
    rw [log2_mul_pow h0, hf, hp]; omega
  unfold Format.nearest
  rw [if_neg h1]
  simp only [hlast]
  have hkept : Toward.even.cut s ((n * 2 ^ k) <<< (-(k : Int) - ((n.log2 : Int) - 52)).toNat) (((n.log2 : Int) - 52) - -(k : Int)).toNat = kept n := by
    by_cases hs : n.log2 ≤ 52
    · have e : (n * 2 ^ k) <<< (-(k : Int) - ((n.log2 : Int) - 52)).toNat = kept n * 2 ^ (((n.log2 : Int) - 52) - -(k : Int)).toNat := by
        rw [kept_small h0 hs, Nat.shiftLeft_eq, Nat.mul_assoc, Nat.mul_assoc, ← Nat.pow_add, ← Nat.pow_add]
        congr 2; omega
      rw [e]; exact cut_exact _ _ _ _ (by omega)
    · have hn := log2_53 (n := n) (by omega) h0 hs
      have hl53 : n.log2 = 53 := by omega
      have e : (n * 2 ^ k) <<< (-(k : Int) - ((n.log2 : Int) - 52)).toNat = kept n * 2 ^ (((n.log2 : Int) - 52) - -(k : Int)).toNat := by
        have e1 : (-(k : Int) - ((n.log2 : Int) - 52)).toNat = 0 := by omega
        have e2 : (((n.log2 : Int) - 52) - -(k : Int)).toNat = k + 1 := by omega
        rw [e1, e2, Nat.shiftLeft_zero]
        have e3 : kept n = 2 ^ 52 := by rw [hn]; exact kept_top
        rw [e3, hn, ← Nat.pow_add, ← Nat.pow_add]; congr 1; omega
      rw [e]; exact cut_exact _ _ _ _ (by omega)
  rw [hkept, hb, hi, hp]
  have e5 : ((n.log2 : Int) - 52 - -1074).toNat = n.log2 + 1022 := by omega
  have e6 : min ((n.log2 + 1022) * 4503599627370496 + kept n) 9218868437227405312 = (n.log2 + 1022) * 4503599627370496 + kept n := by
    clear hkept hlast hb hi hp hf h1
    omega
  rw [e5, e6]

/-- The word w is the whole number n. -/
def Whole (w : Nat) (n : Int) : Prop :=
  ∃ (s : Bool) (m k : Nat), k ≤ 1074 ∧ double.read w = .number s m (-(k : Int)) ∧ signed s m 0 = n * 2 ^ k

theorem signed_up (s : Bool) (m u : Nat) : signed s m u = signed s m 0 * 2 ^ u := by
  unfold signed
  rw [Nat.shiftLeft_eq, Nat.shiftLeft_zero]
  cases s <;> simp [Int.neg_mul]

theorem signed_at {s : Bool} {m k K : Nat} {n : Int} (h : signed s m 0 = n * 2 ^ k) (hk : k ≤ K) : signed s m (-(k : Int) - -(K : Int)).toNat = n * 2 ^ K := by
  have e : (-(k : Int) - -(K : Int)).toNat = K - k := by omega
  rw [e, signed_up, h, Int.mul_assoc, ← Int.pow_add]
  congr 2; omega

theorem natAbs_mul_pow (n : Int) (k : Nat) : (n * 2 ^ k).natAbs = n.natAbs * 2 ^ k := by
  rw [Int.natAbs_mul, Int.natAbs_pow]; rfl

theorem Whole.sum {x y : Nat} {a b : Int} (hx : Whole x a) (hy : Whole y b) :
    ∃ (s : Bool) (k : Nat), k ≤ 1074 ∧ (double.read x).sum (double.read y) = some (.number s ((a + b).natAbs * 2 ^ k) (-(k : Int))) ∧ (a + b ≠ 0 → s = decide (a + b < 0)) := by
  obtain ⟨s, m, i, hi, hr, hv⟩ := hx
  obtain ⟨t, n, j, hj, hr', hv'⟩ := hy
  have hb : min (-(i : Int)) (-(j : Int)) = -((max i j : Nat) : Int) := by omega
  have ht : signed s m (-(i : Int) - -((max i j : Nat) : Int)).toNat + signed t n (-(j : Int) - -((max i j : Nat) : Int)).toNat = (a + b) * 2 ^ (max i j) := by
    rw [signed_at hv (Nat.le_max_left i j), signed_at hv' (Nat.le_max_right i j), Int.add_mul]
  have hp : (0 : Int) < 2 ^ (max i j) := Int.pow_pos (by omega)
  refine ⟨(if (a + b) * 2 ^ (max i j) = 0 then s && t else decide ((a + b) * 2 ^ (max i j) < 0)), max i j, by omega, ?_, ?_⟩
  · rw [hr, hr']
    simp only [Datum.sum, hb, ht, natAbs_mul_pow]
  · intro h0
    have h1 : ¬ (a + b) * 2 ^ (max i j) = 0 := fun h => by
      rcases Int.mul_eq_zero.1 h with h | h
      · exact h0 h
      · omega
    rw [if_neg h1]
    by_cases h : a + b < 0
    · rw [decide_eq_true h, decide_eq_true (Int.mul_neg_of_neg_of_pos h hp)]
    · rw [decide_eq_false h, decide_eq_false (fun h2 => by have := Int.mul_nonneg (show 0 ≤ a + b by omega) (show (0 : Int) ≤ 2 ^ (max i j) by omega); omega)]

theorem signed_kept {s : Bool} {n : Int} (h0 : n ≠ 0) (hs : s = decide (n < 0)) (m : Nat) (k : Nat) (hm : m = n.natAbs * 2 ^ k) : signed s m 0 = n * 2 ^ k := by
  subst hs hm
  unfold signed
  rw [Nat.shiftLeft_zero]
  by_cases h : n < 0
  · rw [decide_eq_true h, if_pos rfl]
    have : ((n.natAbs * 2 ^ k : Nat) : Int) = -n * 2 ^ k := by
      rw [Int.natCast_mul, Int.natCast_pow, Int.ofNat_natAbs_of_nonpos (by omega)]; rfl
    rw [this, Int.neg_mul, Int.neg_neg]
  · rw [decide_eq_false h]
    have : ((n.natAbs * 2 ^ k : Nat) : Int) = n * 2 ^ k := by
      rw [Int.natCast_mul, Int.natCast_pow, Int.natAbs_of_nonneg (by omega)]; rfl
    simpa using this

/-- What is written of a whole number, read again. -/
theorem read_written {s : Bool} {n : Int} {k : Nat} (hn : n.natAbs ≤ 9007199254740992) (hk : k ≤ 1074) (hs : n ≠ 0 → s = decide (n < 0)) :
    (n = 0 ∧ double.nearest s (n.natAbs * 2 ^ k) (-(k : Int)) = double.word s 0) ∨
    (n ≠ 0 ∧ double.read (double.nearest s (n.natAbs * 2 ^ k) (-(k : Int))) = .number (decide (n < 0)) (kept n.natAbs) ((n.natAbs.log2 : Int) - 52)) := by
  by_cases h0 : n = 0
  · left
    refine ⟨h0, ?_⟩
    subst h0
    simp [Format.nearest]
  · right
    have h1 : n.natAbs ≠ 0 := by omega
    refine ⟨h0, ?_⟩
    rw [nearest_whole s n.natAbs k hn h1 hk, double_read _ _ _ (log2_le (by omega) h1) (kept_bounds (by omega) h1), hs h0]

theorem whole_written {s : Bool} {n : Int} {k : Nat} (hn : n.natAbs ≤ 4503599627370496) (hk : k ≤ 1074) (hs : n ≠ 0 → s = decide (n < 0)) :
    Whole (double.nearest s (n.natAbs * 2 ^ k) (-(k : Int))) n := by
  rcases read_written (s := s) (by omega) hk hs with ⟨h0, h⟩ | ⟨h0, h⟩
  · rw [h]
    subst h0
    refine ⟨s, 0, 1074, by omega, double_read_zero s, ?_⟩
    rw [Int.zero_mul]; unfold signed; cases s <;> rfl
  · have h1 : n.natAbs ≠ 0 := by omega
    have hl : n.natAbs.log2 ≤ 52 := by
      have : n.natAbs.log2 < 53 := (Nat.log2_lt h1).2 (by omega)
      omega
    refine ⟨decide (n < 0), kept n.natAbs, 52 - n.natAbs.log2, by omega, ?_, signed_kept h0 rfl _ _ (kept_small h1 hl)⟩
    rw [h]
    congr 1
    omega

theorem toInt_written {s : Bool} {n : Int} {k : Nat} (hn : n.natAbs ≤ 9007199254740992) (hk : k ≤ 1074) (hs : n ≠ 0 → s = decide (n < 0)) :
    (double.read (double.nearest s (n.natAbs * 2 ^ k) (-(k : Int)))).toInt .zero = some n := by
  rcases read_written (s := s) hn hk hs with ⟨h0, h⟩ | ⟨h0, h⟩
  · rw [h, h0, double_read_zero]
    cases s <;> decide +kernel
  · have h1 : n.natAbs ≠ 0 := by omega
    rw [h]
    have hc : Toward.zero.cut (decide (n < 0)) (kept n.natAbs <<< ((n.natAbs.log2 : Int) - 52).toNat) (-((n.natAbs.log2 : Int) - 52)).toNat = n.natAbs := by
      by_cases hl : n.natAbs.log2 ≤ 52
      · have e1 : ((n.natAbs.log2 : Int) - 52).toNat = 0 := by omega
        have e2 : (-((n.natAbs.log2 : Int) - 52)).toNat = 52 - n.natAbs.log2 := by omega
        rw [e1, e2, Nat.shiftLeft_zero, kept_small h1 hl]
        exact cut_exact _ _ _ _ h1
      · have e0 := log2_53 (n := n.natAbs) (by omega) h1 hl
        have e3 := log2_le (n := n.natAbs) (by omega) h1
        have e1 : ((n.natAbs.log2 : Int) - 52).toNat = 1 := by omega
        have e2 : (-((n.natAbs.log2 : Int) - 52)).toNat = 0 := by omega
        have e4 : kept n.natAbs = 2 ^ 52 := by rw [e0]; exact kept_top
        rw [e1, e2, e4]
        have := cut_exact .zero (decide (n < 0)) n.natAbs 0 h1
        rw [Nat.pow_zero, Nat.mul_one] at this
        have e5 : 2 ^ 52 <<< 1 = n.natAbs := by omega
        rw [e5]; exact this
    simp only [Datum.toInt, Datum.integral, hc, Option.some.injEq]
    have := signed_kept (n := n) h0 rfl n.natAbs 0 (by simp)
    simpa using this

/-- 'float64(n)'. -/
theorem whole_of_int (n : Int) (h : n.natAbs ≤ 4503599627370496) : Whole (FloatKind.f64.nearest n) n := by
  have := whole_written (s := decide (n < 0)) (n := n) (k := 0) h (by omega) (fun _ => rfl)
  simpa [FloatKind.nearest, FloatKind.encode, FloatKind.format, Format.write] using this

/-- '+' of two whole numbers, and 'int' of what comes out. -/
theorem whole_sum {x y : Nat} {a b : Int} (hx : Whole x a) (hy : Whole y b) (h : (a + b).natAbs ≤ 9007199254740992) :
    ∃ r, floatBits .add .f64 x y = some r ∧ floatToIntVal .f64 r .i64 = some (a + b) := by
  obtain ⟨s, k, hk, hsum, hs⟩ := Whole.sum hx hy
  refine ⟨double.nearest s ((a + b).natAbs * 2 ^ k) (-(k : Int)), ?_, ?_⟩
  · show double.add x y = _
    unfold Format.add
    rw [hsum]; rfl
  · have ht := toInt_written (s := s) h hk hs
    unfold floatToIntVal
    have e : FloatKind.f64.decode (double.nearest s ((a + b).natAbs * 2 ^ k) (-(k : Int))) = double.read (double.nearest s ((a + b).natAbs * 2 ^ k) (-(k : Int))) := rfl
    rw [e, ht]
    simp only []
    rw [if_pos]
    have h1 : IntKind.min .i64 = -9223372036854775808 := by decide +kernel
    have h2 : IntKind.max .i64 = 9223372036854775807 := by decide +kernel
    rw [h1, h2]; omega

end Go.Proofs.Ytmojkjhmacnndaa.Flo
