/-
  A text told byte by byte, as layer 12 does: plain mathematics: no two texts are told alike; what is told stands between 32 and 126.
-/
import Derived.RowKit
namespace Go.Proofs.YtgkddimijmnpcaaGreatDoor
open Go.RowKit
set_option linter.unusedVariables false
set_option linter.unusedSimpArgs false

/-- A digit of sixteen. -/
def hexB (n : Nat) : UInt8 := if n < 10 then UInt8.ofNat (48 + n) else UInt8.ofNat (87 + n)
/-- A byte, told. -/
def quo1 (b : UInt8) : List UInt8 :=
  if b.toNat = 34 ∨ b.toNat = 92 then [92, b]
  else if b.toNat < 32 ∨ 127 ≤ b.toNat then [92, 117, 48, 48, hexB (b.toNat / 16), hexB (b.toNat % 16)]
  else [b]
/-- A text, told. -/
def quoM (s : List UInt8) : List UInt8 := s.flatMap quo1
def quoT (s : List UInt8) : List UInt8 := 34 :: (quoM s ++ [34])
/-- Texts, told in their row. -/
def quoR : List (List UInt8) → List UInt8
  | [] => []
  | [s] => quoT s
  | s :: l => quoT s ++ 44 :: quoR l
def quoL (l : List (List UInt8)) : List UInt8 := 91 :: (quoR l ++ [93])

def pre (a b : List UInt8) : Bool := a.isPrefixOf b || b.isPrefixOf a
theorem pre_all : ∀ (a b : Fin 256), pre (quo1 (UInt8.ofNat a.val)) (quo1 (UInt8.ofNat b.val)) = true → a = b := by decide +kernel
theorem quo1_pre {b c : UInt8} (h : pre (quo1 b) (quo1 c) = true) : b = c := by
  have h1 := b.toNat_lt
  have h2 := c.toNat_lt
  have := pre_all ⟨b.toNat, h1⟩ ⟨c.toNat, h2⟩ (by simpa using h)
  simp only [Fin.mk.injEq] at this
  exact UInt8.toNat_inj.1 this
theorem pre_of {a b r s : List UInt8} (h : a ++ r = b ++ s) : pre a b = true := by
  unfold pre
  rcases List.prefix_or_prefix_of_prefix (List.prefix_append a r) (h ▸ List.prefix_append b s) with p | p
  · rw [List.isPrefixOf_iff_prefix.2 p, Bool.true_or]
  · rw [List.isPrefixOf_iff_prefix.2 p, Bool.or_true]
theorem quo1_head : ∀ (a : Fin 256), (quo1 (UInt8.ofNat a.val)).head? ≠ some 34 ∧ quo1 (UInt8.ofNat a.val) ≠ [] := by decide +kernel
theorem quo1_head' (b : UInt8) : (quo1 b).head? ≠ some 34 ∧ quo1 b ≠ [] := by
  have := quo1_head ⟨b.toNat, b.toNat_lt⟩
  simpa using this
theorem quoM_inj : ∀ {s t : List UInt8}, quoM s ++ [34] = quoM t ++ [34] → s = t
  | [], [], _ => rfl
  | [], c :: t, h => by
    exfalso
    have hc := quo1_head' c
    cases hq : quo1 c with
    | nil => exact hc.2 hq
    | cons y r =>
      rw [hq] at hc
      simp only [quoM, List.flatMap_nil, List.flatMap_cons, hq, List.nil_append, List.cons_append] at h
      injection h with h1 _
      exact hc.1 (by rw [← h1]; rfl)
  | c :: s, [], h => by
    exfalso
    have hc := quo1_head' c
    cases hq : quo1 c with
    | nil => exact hc.2 hq
    | cons y r =>
      rw [hq] at hc
      simp only [quoM, List.flatMap_nil, List.flatMap_cons, hq, List.nil_append, List.cons_append] at h
      injection h with h1 _
      exact hc.1 (by rw [h1]; rfl)
  | b :: s, c :: t, h => by
    simp only [quoM, List.flatMap_cons, List.append_assoc] at h
    have hbc := quo1_pre (pre_of h)
    subst hbc
    rw [quoM_inj (s := s) (t := t) (List.append_cancel_left h)]
theorem quoT_inj {s t : List UInt8} (h : quoT s = quoT t) : s = t := by
  unfold quoT at h
  injection h with _ h
  exact quoM_inj h
theorem quo1_low : ∀ (a : Fin 256), (quo1 (UInt8.ofNat a.val)).all (fun x => decide (32 ≤ x.toNat ∧ x.toNat < 127)) = true := by decide +kernel
theorem quoM_low (s : List UInt8) : ∀ x ∈ quoM s, 32 ≤ x.toNat ∧ x.toNat < 127 := fun x hx => by
  unfold quoM at hx
  obtain ⟨b, _, hb⟩ := List.mem_flatMap.1 hx
  have := quo1_low ⟨b.toNat, b.toNat_lt⟩
  simp only [UInt8.ofNat_toNat] at this
  simpa using List.all_eq_true.1 this x hb
theorem quoT_low (s : List UInt8) : ∀ x ∈ quoT s, 32 ≤ x.toNat ∧ x.toNat < 127 := fun x hx => by
  unfold quoT at hx
  rcases List.mem_cons.1 hx with rfl | hx
  · decide
  · rcases List.mem_append.1 hx with hx | hx
    · exact quoM_low s x hx
    · simp only [List.mem_singleton] at hx
      subst hx
      decide
theorem quo1_len (b : UInt8) : 1 ≤ (quo1 b).length ∧ (quo1 b).length ≤ 6 := by
  unfold quo1
  split
  · simp
  · split <;> simp
theorem quoM_len : ∀ s : List UInt8, s.length ≤ (quoM s).length ∧ (quoM s).length ≤ 6 * s.length
  | [] => by simp [quoM]
  | b :: s => by
    have h := quoM_len s
    have h1 := quo1_len b
    simp only [quoM, List.flatMap_cons, List.length_append, List.length_cons] at h ⊢
    omega
theorem quoT_len (s : List UInt8) : s.length + 2 ≤ (quoT s).length ∧ (quoT s).length ≤ 6 * s.length + 2 := by
  have := quoM_len s
  unfold quoT
  simp only [List.length_cons, List.length_append, List.length_nil]
  omega

end Go.Proofs.YtgkddimijmnpcaaGreatDoor

