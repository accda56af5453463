/-
  Plain mathematics of layer 2: what is put comes back, wherever it lies; a frame that is cut, or a byte of whose body is turned, is none.
-/
import Derived.Test.YtcelpbjlmpaijaaFrSums
import Derived.Test.YtcelpbjlmpaijaaFrameGet
import Derived.Test.YtcelpbjlmpaijaaTexts
namespace Go.Proofs.Ytcelpbjlmpaijaa.Fr
open Go.RowKit
set_option linter.unusedVariables false

/-- The frame of a body. -/
def fr (l : List UInt8) : List UInt8 := Vi.put l.length ++ (four (sum l) ++ l)

theorem put_small (l : List UInt8) (h : l.length ≤ 32768) : put l = (fr l, 0) := by
  unfold put
  rw [if_neg (by omega)]
  rfl

theorem fr_length (l : List UInt8) : (fr l).length = (Vi.put l.length).length + 4 + l.length := by
  unfold fr
  simp [four]
  omega

theorem fr_bounds (l : List UInt8) : 5 + l.length ≤ (fr l).length ∧ (fr l).length ≤ 13 + l.length := by
  have h1 := Vi.put_length_le l.length
  have h2 : 0 < (Vi.put l.length).length := List.length_pos_iff.2 (Vi.put_ne _)
  rw [fr_length]
  omega

theorem four_inj {n m : Nat} (hn : n < 4294967296) (hm : m < 4294967296) (h : four n = four m) : n = m := by
  unfold four at h
  simp only [List.cons.injEq, and_true, ← UInt8.toNat_inj, UInt8.toNat_ofNat'] at h
  omega

theorem drop_part (p q r : List UInt8) : (p ++ (q ++ r)).drop p.length = q ++ r := List.drop_left ..

/-- A frame wherever it lies. -/
theorem get_fr (p l r : List UInt8) (h : l.length ≤ 32768) : get (p ++ (fr l ++ r)) (p.length : Int) = (l, p.length + (fr l).length, 0) := by
  have hg := Vi.getI_put p l.length (four (sum l) ++ (l ++ r)) (by omega)
  have e : p ++ (fr l ++ r) = p ++ (Vi.put l.length ++ (four (sum l) ++ (l ++ r))) := by simp [fr]
  rw [e]
  have d1 : (p ++ (Vi.put l.length ++ (four (sum l) ++ (l ++ r)))).drop (p.length + (Vi.put l.length).length) = four (sum l) ++ (l ++ r) := by
    rw [← List.append_assoc, ← List.length_append, List.drop_left]
  have d2 : (p ++ (Vi.put l.length ++ (four (sum l) ++ (l ++ r)))).drop (p.length + (Vi.put l.length).length + 4) = l ++ r := by
    rw [← List.drop_drop, d1]
    exact List.drop_left (l₁ := four (sum l))
  have hl : (p ++ (Vi.put l.length ++ (four (sum l) ++ (l ++ r)))).length = p.length + (Vi.put l.length).length + 4 + l.length + r.length := by
    simp [four]; omega
  have hf : fits (p ++ (Vi.put l.length ++ (four (sum l) ++ (l ++ r)))) l.length (p.length + (Vi.put l.length).length) := by
    refine ⟨h, by rw [hl]; omega, ?_⟩
    rw [d1, d2, List.take_left]
    exact List.take_left (l₁ := four (sum l))
  rw [get_some hg hf, d2, List.take_left, fr_length]
  simp only [Prod.mk.injEq, true_and, and_true]
  omega

theorem getF_put_take : ∀ (f x i y c : Nat), x < 128 ^ f → c < (Vi.putF f x).length → Vi.getF f i y ((Vi.putF f x).take c) = (0, 0, 100)
  | 0, _, _, _, _, _, h => by simp [Vi.putF] at h
  | f + 1, x, i, y, 0, _, _ => by simp [Vi.getF]
  | f + 1, x, i, y, c + 1, hx, hc => by
    by_cases h : x < 128
    · rw [Vi.putF_last (by omega) (by omega)] at hc
      simp at hc
    · obtain ⟨h0, h1, h2⟩ := Vi.putF_more hx (by omega) (show 128 ≤ x by omega)
      have e : f + 1 - 1 = f := by omega
      rw [e] at h0 h1 h2
      rw [h2] at hc ⊢
      rw [List.take_succ_cons, Vi.getF_high _ _ _ _ _ (by rw [Vi.byte_high]; omega)]
      exact getF_put_take f _ _ _ c h1 (by simpa using hc)

theorem getI_put_take (x c : Nat) (hx : x < 9223372036854775808) (hc : c < (Vi.put x).length) : Vi.getI ((Vi.put x).take c) 0 = (0, 0, 100) := by
  rw [Vi.getI_zero]
  exact Vi.getAt_err _ (getF_put_take 9 x 0 0 c (by rw [Vi.pow9]; exact hx) hc)

theorem getI_begin (x : Nat) (r : List UInt8) (hx : x < 9223372036854775808) : Vi.getI (Vi.put x ++ r) 0 = (x, (Vi.put x).length, 0) := by
  have h := Vi.getI_put [] x r hx
  simpa using h

/-- A frame that is cut is none. -/
theorem get_cut (l : List UInt8) (h : l.length ≤ 32768) (c : Nat) (hc : c < (fr l).length) : get ((fr l).take c) 0 = ([], 0, 200) := by
  by_cases h1 : c < (Vi.put l.length).length
  · have e : (fr l).take c = (Vi.put l.length).take c := List.take_append_of_le_length (by omega)
    rw [e]
    exact get_none (getI_put_take l.length c (by omega) h1) (fun h => by simp at h)
  · have e : (fr l).take c = Vi.put l.length ++ (four (sum l) ++ l).take (c - (Vi.put l.length).length) := by
      unfold fr
      rw [List.take_append, List.take_of_length_le (by omega)]
    have hl : ((fr l).take c).length = c := by rw [List.length_take]; omega
    have hg := getI_begin l.length ((four (sum l) ++ l).take (c - (Vi.put l.length).length)) (by omega)
    rw [← e] at hg
    refine get_none hg (fun hf => ?_)
    have h2 := hf.2.2.1
    rw [hl] at h2
    rw [fr_length] at hc
    omega

/-- A frame, one byte of whose body is turned, is none. -/
theorem get_turned (l : List UInt8) (h : l.length ≤ 32768) (i : Nat) (v : UInt8) (hi : i < l.length) (hv : v ≠ l[i]) : get ((fr l).set ((Vi.put l.length).length + 4 + i) v) 0 = ([], 0, 200) := by
  have e : (fr l).set ((Vi.put l.length).length + 4 + i) v = Vi.put l.length ++ (four (sum l) ++ l.set i v) := by
    unfold fr
    rw [List.set_append_right _ _ (by omega), List.set_append_right _ _ (by rw [four_length]; omega)]
    congr 3
    rw [four_length]
    omega
  have hg := getI_begin l.length (four (sum l) ++ l.set i v) (by omega)
  rw [e]
  refine get_none hg (fun hf => ?_)
  have h3 := hf.2.2.2
  have d1 : (Vi.put l.length ++ (four (sum l) ++ l.set i v)).drop (Vi.put l.length).length = four (sum l) ++ l.set i v := List.drop_left ..
  have d2 : (Vi.put l.length ++ (four (sum l) ++ l.set i v)).drop ((Vi.put l.length).length + 4) = l.set i v := by
    rw [← List.drop_drop, d1]
    exact List.drop_left (l₁ := four (sum l))
  rw [d1, d2, List.take_of_length_le (l := l.set i v) (by simp)] at h3
  have h4 : (four (sum l) ++ l.set i v).take 4 = four (sum l) := List.take_left (l₁ := four (sum l))
  rw [h4] at h3
  exact sum_turned l i v hi hv (four_inj (sum_lt _) (sum_lt _) h3).symm

/-- Frames one behind the other. -/
def row (l : List ByteArray) : List UInt8 := l.flatMap fun s => fr s.data.toList

theorem row_append (a b : List ByteArray) : row (a ++ b) = row a ++ row b := by simp [row]

theorem row_one (s : ByteArray) : row [s] = fr s.data.toList := by simp [row]

theorem row_at (ss : List ByteArray) (i : Nat) (h : i < ss.length) :
    row ss = row (ss.take i) ++ (fr (ss.getD i ByteArray.empty).data.toList ++ row (ss.drop (i + 1))) := by
  have e : ss = ss.take i ++ ([ss.getD i ByteArray.empty] ++ ss.drop (i + 1)) := by
    rw [← List.append_assoc, ← Vi.take_snoc ss i h, List.take_append_drop]
  rw [← row_one, ← row_append, ← row_append, ← e]

theorem row_length : ∀ (l : List ByteArray), (∀ s ∈ l, s.size ≤ 500) → (row l).length ≤ 513 * l.length
  | [], _ => by simp [row]
  | s :: l, h => by
    have ih := row_length l (fun x hx => h x (List.mem_cons_of_mem _ hx))
    have h1 := h s (List.mem_cons_self ..)
    have h2 := (fr_bounds s.data.toList).2
    have e : row (s :: l) = fr s.data.toList ++ row l := by simp [row]
    rw [e]
    simp only [List.length_append, List.length_cons]
    have : s.data.toList.length = s.size := by simp
    omega

end Go.Proofs.Ytcelpbjlmpaijaa.Fr
