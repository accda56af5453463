/-
  Plain mathematics of layer 1 (numbers and texts as bytes): what Put, Get, PutText, GetText answer, as functions on lists of bytes, and what follows of them. No program in it.
-/
import Derived.Laws.BitsAllLaws
import Derived.Laws.Bits128
import Derived.RowKit
namespace Go.Proofs.Ytjfgccjdkflfoaa.Vi
open Go.RowKit
set_option linter.unusedVariables false

/-- A number's bytes, at most f of them. -/
def putF : Nat → Nat → List UInt8
  | 0, _ => []
  | f + 1, x => if x < 128 then [UInt8.ofNat x] else UInt8.ofNat (x % 128 + 128) :: putF f (x / 128)

def put (x : Nat) : List UInt8 := putF 9 x

/-- From byte i on, x gathered: the number, how many bytes it has, the error. -/
def getF : Nat → Nat → Nat → List UInt8 → Nat × Nat × Nat
  | 0, _, _, _ => (0, 0, 101)
  | _ + 1, _, _, [] => (0, 0, 100)
  | f + 1, i, x, b :: l =>
    if 128 ≤ b.toNat then getF f (i + 1) (x + b.toNat % 128 * 128 ^ i) l
    else if b.toNat = 0 ∧ 0 < i then (0, 0, 101) else (x + b.toNat % 128 * 128 ^ i, i + 1, 0)

def get (l : List UInt8) : Nat × Nat × Nat := getF 9 0 0 l

/-- The number at place a, where it ends, the error. -/
def getAt (l : List UInt8) (a : Nat) : Nat × Nat × Nat := if (get (l.drop a)).2.2 = 0 then ((get (l.drop a)).1, a + (get (l.drop a)).2.1, 0) else (0, 0, (get (l.drop a)).2.2)

def getI (l : List UInt8) (a : Int) : Nat × Nat × Nat := if 0 ≤ a ∧ a ≤ l.length then getAt l a.toNat else (0, 0, 101)

def putText (l : List UInt8) : List UInt8 × Nat := if 65536 < l.length then ([], 101) else (put l.length ++ l, 0)

def getText (l : List UInt8) (a : Int) : List UInt8 × Nat × Nat :=
  if (getI l a).2.2 = 0 then
    if 65536 < (getI l a).1 then ([], 0, 101)
    else if l.length - (getI l a).2.1 < (getI l a).1 then ([], 0, 100)
    else ((l.drop (getI l a).2.1).take (getI l a).1, (getI l a).2.1 + (getI l a).1, 0)
  else ([], 0, (getI l a).2.2)

theorem wrap_small (n : Nat) (h : n < 9223372036854775808) : IntKind.i64.wrap (n : Int) = (n : Int) := by
  rw [IntKind.wrap_i64]; omega

theorem pow_lt {k : Nat} (hk : k < 9) : (128 : Nat) ^ k * 128 ≤ 9223372036854775808 := by
  have h : (128 : Nat) ^ k * 128 = 128 ^ (k + 1) := (Nat.pow_succ ..).symm
  rw [h]
  calc (128 : Nat) ^ (k + 1) ≤ 128 ^ 9 := Nat.pow_le_pow_right (by omega) (by omega)
    _ = 9223372036854775808 := by decide

theorem two_pow (k : Nat) : (2 : Nat) ^ (7 * k) = 128 ^ k := by
  rw [Nat.pow_mul]

/-- 'x | b << (7 * i)', as the walk spells it. -/
theorem or_step (y k b : Nat) (hy : y < 128 ^ k) (hk : k < 9) :
    bits .or .i64 (y : Int) (wrap64 ((b : Int) % 128 * 2 ^ (7 * k))) = ((y + b % 128 * 128 ^ k : Nat) : Int) := by
  have hp := pow_lt hk
  have hm : b % 128 ≤ 127 := by omega
  have hb : b % 128 * 128 ^ k ≤ 127 * 128 ^ k := Nat.mul_le_mul_right _ hm
  have e1 : ((b : Int) % 128 * 2 ^ (7 * k)) = ((b % 128 * 128 ^ k : Nat) : Int) := by
    rw [← two_pow k]; simp
  have e2 : wrap64 ((b % 128 * 128 ^ k : Nat) : Int) = ((b % 128 * 128 ^ k : Nat) : Int) := by
    generalize b % 128 * 128 ^ k = z at hb
    unfold wrap64; omega
  rw [e1, e2]
  show IntKind.i64.wrap ((BitVec.ofInt 64 (y : Int) ||| BitVec.ofInt 64 ((b % 128 * 128 ^ k : Nat) : Int)).toNat : Int) = _
  have hsum : y ||| (b % 128 * 128 ^ k) = y + b % 128 * 128 ^ k := by
    have h := Nat.two_pow_add_eq_or_of_lt (i := 7 * k) (b := y) (by rw [two_pow]; exact hy) (b % 128)
    rw [two_pow] at h
    rw [Nat.or_comm, Nat.mul_comm (b % 128), ← h]
    omega
  generalize hz : b % 128 * 128 ^ k = z at *
  rw [BitVec.toNat_or, ofInt_u64 y (by omega), ofInt_u64 z (by omega), hsum]
  exact wrap_small _ (by omega)

/-- The same, with '& 127' in the place of '% 128'. -/
theorem or_step_ref (y k b : Nat) (hy : y < 128 ^ k) (hk : k < 9) :
    bits .or .i64 (y : Int) (wrap64 (bits .and .i64 (b : Int) 127 * 2 ^ (7 * k))) = ((y + b % 128 * 128 ^ k : Nat) : Int) := by
  rw [i64_and127]
  exact or_step y k b hy hk

theorem step_lt {y k b : Nat} (hy : y < 128 ^ k) : y + b % 128 * 128 ^ k < 128 ^ (k + 1) := by
  have hm : b % 128 ≤ 127 := by omega
  have hb : b % 128 * 128 ^ k ≤ 127 * 128 ^ k := Nat.mul_le_mul_right _ hm
  have h : (128 : Nat) ^ (k + 1) = 128 ^ k * 128 := Nat.pow_succ ..
  omega

theorem drop_step (s : ByteArray) (a : Nat) (h : a < s.size) : s.data.toList.drop a = s[a] :: s.data.toList.drop (a + 1) := by
  have h' : a < s.data.toList.length := by simpa using h
  rw [List.drop_eq_getElem_cons h']
  rfl

theorem drop_end (s : ByteArray) (a : Nat) (h : ¬ a < s.size) : s.data.toList.drop a = [] := by
  apply List.drop_eq_nil_of_le
  simp
  have : s.data.size = s.size := rfl
  omega

theorem getF_more (f k y : Nat) (s : ByteArray) (a : Nat) (h : a + k < s.size) (hb : (128 : Int) ≤ (s[a + k].toNat : Int)) :
    getF (f + 1) k y (s.data.toList.drop (a + k)) = getF f (k + 1) (y + s[a + k].toNat % 128 * 128 ^ k) (s.data.toList.drop (a + (k + 1))) := by
  rw [drop_step s (a + k) h]
  show (if _ then _ else _) = _
  rw [if_pos (by omega)]
  rfl

theorem getF_cut (f k y : Nat) (s : ByteArray) (a : Nat) (h : ¬ a + k < s.size) :
    getF (f + 1) k y (s.data.toList.drop (a + k)) = (0, 0, 100) := by
  rw [drop_end s (a + k) h]; rfl

theorem getF_long (f k y : Nat) (s : ByteArray) (a : Nat) (h : a + k < s.size) (hb : ¬ (128 : Int) ≤ (s[a + k].toNat : Int)) (h0 : s[a + k].toNat = 0) (hk : 0 < k) :
    getF (f + 1) k y (s.data.toList.drop (a + k)) = (0, 0, 101) := by
  rw [drop_step s (a + k) h]
  show (if _ then _ else _) = _
  rw [if_neg (by omega), if_pos ⟨h0, hk⟩]

theorem getF_done (f k y : Nat) (s : ByteArray) (a : Nat) (h : a + k < s.size) (hb : ¬ (128 : Int) ≤ (s[a + k].toNat : Int)) (h0 : ¬ (s[a + k].toNat = 0 ∧ 0 < k)) :
    getF (f + 1) k y (s.data.toList.drop (a + k)) = (y + s[a + k].toNat % 128 * 128 ^ k, k + 1, 0) := by
  rw [drop_step s (a + k) h]
  show (if _ then _ else _) = _
  rw [if_neg (by omega), if_neg h0]

theorem getF_bound : ∀ (f i y : Nat) (l : List UInt8), y < 128 ^ i → (getF f i y l).2.2 = 0 → (getF f i y l).1 < 128 ^ (i + f) ∧ i < (getF f i y l).2.1 ∧ (getF f i y l).2.1 ≤ i + f ∧ (getF f i y l).2.1 ≤ i + l.length
  | 0, _, _, _, _, h => by simp [getF] at h
  | f + 1, _, _, [], _, h => by simp [getF] at h
  | f + 1, i, y, b :: l, hy, h => by
    by_cases h1 : 128 ≤ b.toNat
    · have e : getF (f + 1) i y (b :: l) = getF f (i + 1) (y + b.toNat % 128 * 128 ^ i) l := by show (if _ then _ else _) = _; rw [if_pos h1]
      rw [e] at h ⊢
      have ih := getF_bound f (i + 1) _ l (step_lt hy) h
      rw [show i + (f + 1) = i + 1 + f by omega]
      simp only [List.length_cons]
      omega
    · by_cases h2 : b.toNat = 0 ∧ 0 < i
      · have e : getF (f + 1) i y (b :: l) = (0, 0, 101) := by show (if _ then _ else _) = _; rw [if_neg h1, if_pos h2]
        rw [e] at h; simp at h
      · have e : getF (f + 1) i y (b :: l) = (y + b.toNat % 128 * 128 ^ i, i + 1, 0) := by show (if _ then _ else _) = _; rw [if_neg h1, if_neg h2]
        rw [e]
        have hs := step_lt (b := b.toNat) hy
        have hm : (128 : Nat) ^ (i + 1) ≤ 128 ^ (i + (f + 1)) := Nat.pow_le_pow_right (by omega) (by omega)
        simp only [List.length_cons]
        omega

theorem get_bound (l : List UInt8) (h : (get l).2.2 = 0) : (get l).1 < 9223372036854775808 ∧ 0 < (get l).2.1 ∧ (get l).2.1 ≤ 9 ∧ (get l).2.1 ≤ l.length := by
  have hb := getF_bound 9 0 0 l (by decide) h
  have e : (128 : Nat) ^ (0 + 9) = 9223372036854775808 := by decide
  rw [e] at hb
  unfold get
  omega

theorem getI_ok {l : List UInt8} {a : Int} {x t : Nat} (h : getI l a = (x, t, 0)) : 0 ≤ a ∧ a ≤ l.length ∧ x < 9223372036854775808 ∧ a < t ∧ t ≤ l.length ∧ t ≤ a + 9 := by
  unfold getI at h
  split at h
  · rename_i hr
    unfold getAt at h
    split at h
    · rename_i h0
      have hb := get_bound _ h0
      simp only [Prod.mk.injEq] at h
      simp only [List.length_drop] at hb
      omega
    · simp only [Prod.mk.injEq] at h
      rename_i h0
      exact absurd h.2.2 h0
  · simp at h

theorem getI_err {l : List UInt8} {a : Int} (h : (getI l a).2.2 ≠ 0) : getI l a = (0, 0, (getI l a).2.2) := by
  unfold getI at h ⊢
  split
  · unfold getAt at h ⊢
    rename_i hr
    rw [if_pos hr] at h
    split
    · rename_i h0
      rw [if_pos h0] at h
      exact absurd rfl h
    · rfl
  · rfl

theorem getF_err : ∀ (f i y : Nat) (l : List UInt8), (getF f i y l).2.2 = 0 ∨ (getF f i y l).2.2 = 100 ∨ (getF f i y l).2.2 = 101
  | 0, _, _, _ => .inr (.inr rfl)
  | _ + 1, _, _, [] => .inr (.inl rfl)
  | f + 1, i, y, b :: l => by
    unfold getF
    split
    · exact getF_err f _ _ l
    · split
      · exact .inr (.inr rfl)
      · exact .inl rfl

theorem getI_errs (l : List UInt8) (a : Int) : (getI l a).2.2 = 0 ∨ (getI l a).2.2 = 100 ∨ (getI l a).2.2 = 101 := by
  unfold getI
  split
  · unfold getAt
    split
    · exact .inl rfl
    · exact getF_err ..
  · exact .inr (.inr rfl)

/-- Put's answer, whatever the number. -/
def putI (x : Int) : List UInt8 × Nat := if x < 0 then ([], 101) else (put x.toNat, 0)

theorem or128 (y : Nat) : bits .or .u8 ((y : Int) % 128) 128 = ((UInt8.ofNat (y % 128 + 128)).toNat : Int) := by
  rw [u8_or128_right _ (by omega) (by omega)]
  have h : (UInt8.ofNat (y % 128 + 128)).toNat = y % 128 + 128 := by
    rw [UInt8.toNat_ofNat']; omega
  rw [h]; omega

theorem i64_or_join (a b i : Nat) (hb : b < 2 ^ i) (h : 2 ^ i * a + b < 9223372036854775808) : bits .or .i64 ((2 ^ i * a : Nat) : Int) (b : Int) = ((2 ^ i * a + b : Nat) : Int) := by
  show IntKind.i64.wrap ((BitVec.ofInt 64 ((2 ^ i * a : Nat) : Int) ||| BitVec.ofInt 64 (b : Int)).toNat : Int) = _
  have hs := Nat.two_pow_add_eq_or_of_lt hb a
  generalize 2 ^ i * a = z at *
  rw [BitVec.toNat_or, ofInt_u64 z (by omega), ofInt_u64 b (by omega), ← hs]
  exact wrap_small _ h

theorem bits_or_comm (k : IntKind) (a b : Int) : bits .or k a b = bits .or k b a := by
  simp only [bits, BitVec.or_comm]

theorem ref128 (y : Nat) : bits .or .i64 (bits .and .i64 (y : Int) 127) 128 % 256 = ((UInt8.ofNat (y % 128 + 128)).toNat : Int) := by
  have h : (UInt8.ofNat (y % 128 + 128)).toNat = y % 128 + 128 := by
    rw [UInt8.toNat_ofNat']; omega
  have hj := i64_or_join 1 (y % 128) 7 (by omega) (by omega)
  rw [h, i64_and127, bits_or_comm]
  have e1 : ((2 ^ 7 * 1 : Nat) : Int) = 128 := by decide
  have e2 : ((y % 128 : Nat) : Int) = (y : Int) % 128 := by omega
  rw [e1, e2] at hj
  rw [hj]
  omega

theorem byte_small {y : Nat} (h : ¬ 128 ≤ y) : (y : Int) = ((UInt8.ofNat y).toNat : Int) := by
  have h : (UInt8.ofNat y).toNat = y := by
    rw [UInt8.toNat_ofNat']; omega
  rw [h]

theorem putF_more {f y : Nat} (hy : y < 128 ^ f) (hf : 0 < f) (hc : 128 ≤ y) : 0 < f - 1 ∧ y / 128 < 128 ^ (f - 1) ∧ putF f y = UInt8.ofNat (y % 128 + 128) :: putF (f - 1) (y / 128) := by
  obtain ⟨g, rfl⟩ : ∃ g, f = g + 1 := ⟨f - 1, by omega⟩
  have e : g + 1 - 1 = g := by omega
  have hp : (128 : Nat) ^ (g + 1) = 128 ^ g * 128 := Nat.pow_succ ..
  rw [e]
  refine ⟨?_, by omega, by show (if _ then _ else _) = _; rw [if_neg (by omega)]⟩
  cases g with
  | zero => simp at hy; omega
  | succ g => omega

theorem putF_last {f y : Nat} (hf : 0 < f) (hc : ¬ 128 ≤ y) : putF f y = [UInt8.ofNat y] := by
  obtain ⟨g, rfl⟩ : ∃ g, f = g + 1 := ⟨f - 1, by omega⟩
  show (if _ then _ else _) = _
  rw [if_pos (by omega)]

theorem putF_length_le : ∀ (f x : Nat), (putF f x).length ≤ f
  | 0, _ => Nat.le_refl _
  | f + 1, x => by
    unfold putF
    split
    · simp
    · have := putF_length_le f (x / 128)
      simp; omega

theorem put_length_le (x : Nat) : (put x).length ≤ 9 := putF_length_le 9 x

theorem extract_eq (s : ByteArray) (a n : Nat) : s.extract a (a + n) = ⟨((s.data.toList.drop a).take n).toArray⟩ := by
  apply ByteArray.ext
  apply Array.toList_inj.1
  simp [ByteArray.data_extract]

theorem extract_size (s : ByteArray) (a n : Nat) (h : a + n ≤ s.size) : (s.extract a (a + n)).size = n := by
  rw [ByteArray.size_extract]; omega

/-- Bytes as cells. -/
def cells (l : List UInt8) : List Value := l.map fun b => Value.int .u8 b.toNat

theorem lt63 {y f : Nat} (hy : y < 128 ^ f) (hf : f ≤ 9) : y < 9223372036854775808 := by
  have h : (128 : Nat) ^ f ≤ 128 ^ 9 := Nat.pow_le_pow_right (by omega) hf
  have e : (128 : Nat) ^ 9 = 9223372036854775808 := by decide
  omega

end Go.Proofs.Ytjfgccjdkflfoaa.Vi
