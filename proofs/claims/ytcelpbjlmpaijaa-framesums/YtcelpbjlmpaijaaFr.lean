/-
  Plain mathematics of layer 2 (records with sums): what Sum, Put, Get answer, as functions on lists of bytes. No program in it.
-/
import Derived.Test.YtcelpbjlmpaijaaVi
namespace Go.Proofs.Ytcelpbjlmpaijaa.Fr
open Go.RowKit
set_option linter.unusedVariables false

/-- One byte taken into both sums. -/
def step (p : Nat × Nat) (b : UInt8) : Nat × Nat := ((p.1 + b.toNat) % 65521, (p.2 + (p.1 + b.toNat) % 65521) % 65521)

def ab (l : List UInt8) : Nat × Nat := l.foldl step (1, 0)

def sum (l : List UInt8) : Nat := (ab l).2 * 65536 + (ab l).1

/-- A number's four bytes, the highest first. -/
def four (n : Nat) : List UInt8 := [UInt8.ofNat (n / 16777216), UInt8.ofNat (n / 65536), UInt8.ofNat (n / 256), UInt8.ofNat n]

def put (l : List UInt8) : List UInt8 × Nat := if 32768 < l.length then ([], 200) else (Vi.put l.length ++ (four (sum l) ++ l), 0)

/-- Is there a frame whose length is x and whose sum begins at t? -/
abbrev fits (l : List UInt8) (x t : Nat) : Prop := x ≤ 32768 ∧ t + 4 + x ≤ l.length ∧ (l.drop t).take 4 = four (sum ((l.drop (t + 4)).take x))

def get (l : List UInt8) (a : Int) : List UInt8 × Nat × Nat :=
  if (Vi.getI l a).2.2 = 0 ∧ fits l (Vi.getI l a).1 (Vi.getI l a).2.1 then
    ((l.drop ((Vi.getI l a).2.1 + 4)).take (Vi.getI l a).1, (Vi.getI l a).2.1 + 4 + (Vi.getI l a).1, 0)
  else ([], 0, 200)

theorem step_lt (p : Nat × Nat) (b : UInt8) : (step p b).1 < 65521 ∧ (step p b).2 < 65521 :=
  ⟨Nat.mod_lt _ (by decide), Nat.mod_lt _ (by decide)⟩

theorem fold_lt : ∀ (l : List UInt8) (p : Nat × Nat), p.1 < 65521 ∧ p.2 < 65521 → (l.foldl step p).1 < 65521 ∧ (l.foldl step p).2 < 65521
  | [], _, h => h
  | b :: l, p, _ => fold_lt l (step p b) (step_lt p b)

theorem ab_lt (l : List UInt8) : (ab l).1 < 65521 ∧ (ab l).2 < 65521 := fold_lt l (1, 0) (by decide)

theorem sum_lt (l : List UInt8) : sum l < 4294967296 := by
  have h := ab_lt l
  unfold sum
  omega

theorem fold_step (s : ByteArray) (k x y : Nat) (h : k < s.size) :
    List.foldl step (x, y) (s.data.toList.drop k) = List.foldl step ((x + s[k].toNat) % 65521, (y + (x + s[k].toNat) % 65521) % 65521) (s.data.toList.drop (k + 1)) := by
  rw [Vi.drop_step s k h]
  rfl

theorem fold_end (s : ByteArray) (k x y : Nat) (h : ¬ k < s.size) :
    List.foldl step (x, y) (s.data.toList.drop k) = (x, y) := by
  rw [Vi.drop_end s k h]
  rfl

theorem four_length (n : Nat) : (four n).length = 4 := rfl

end Go.Proofs.Ytcelpbjlmpaijaa.Fr
