/-
  Two vectors of three nodes that grow step by step, one under the other: plain lists.
-/
import Derived.Test.YtbindfgjdocpoaaVeLat
namespace Go.Proofs.Ytbindfgjdocpoaa.Ve
set_option linter.unusedVariables false

/-- W is under V, both of three nodes, no number above i. -/
def St (V W : List Int) (i : Nat) : Prop := V.length = 3 ∧ W.length = 3 ∧ ∀ a, a < 3 → 0 ≤ W.getD a 0 ∧ W.getD a 0 ≤ V.getD a 0 ∧ V.getD a 0 ≤ (i : Int)

theorem st_zero : St [0, 0, 0] [0, 0, 0] 0 := by
  refine ⟨rfl, rfl, fun a ha => ?_⟩
  match a, ha with
  | 0, _ => decide
  | 1, _ => decide
  | 2, _ => decide

theorem set_at (l : List Int) (k a : Nat) (x : Int) (h : k < l.length) : (l.set k x).getD a 0 = if k = a then x else l.getD a 0 := by
  by_cases e : k = a
  · subst e; simp [List.getD, h]
  · simp [List.getD, e]

theorem st_one {V W : List Int} {i : Nat} (h : St V W i) {k : Nat} (hk : k < 3) : St (V.set k (V.getD k 0 + 1)) W (i + 1) := by
  refine ⟨by rw [List.length_set]; exact h.1, h.2.1, fun a ha => ?_⟩
  rw [set_at V k a _ (by rw [h.1]; exact hk)]
  have h1 := h.2.2 a ha
  split
  · rename_i e; subst e; omega
  · omega

theorem st_both {V W : List Int} {i : Nat} (h : St V W i) {k : Nat} (hk : k < 3) : St (V.set k (V.getD k 0 + 1)) (W.set k (W.getD k 0 + 1)) (i + 1) := by
  refine ⟨by rw [List.length_set]; exact h.1, by rw [List.length_set]; exact h.2.1, fun a ha => ?_⟩
  rw [set_at V k a _ (by rw [h.1]; exact hk), set_at W k a _ (by rw [h.2.1]; exact hk)]
  have h1 := h.2.2 a ha
  split
  · rename_i e; subst e; omega
  · omega

theorem st_may {V W : List Int} {i : Nat} (h : St V W i) (hi : i ≤ 30) : May V V.length ∧ May W W.length := by
  have h1 := h.1
  have h2 := h.2.1
  refine ⟨⟨by omega, by omega, rfl, fun a ha => ?_⟩, ⟨by omega, by omega, rfl, fun a ha => ?_⟩⟩
  · have := h.2.2 a (by omega); omega
  · have := h.2.2 a (by omega); omega

theorem st_alike {V W : List Int} {i : Nat} (h : St V W i) (hi : i ≤ 30) : Alike V W := alike_of (st_may h hi).1 (st_may h hi).2 (by rw [h.1, h.2.1])

theorem st_under {V W : List Int} {i : Nat} (h : St V W i) (hi : i ≤ 30) : Under W V :=
  ⟨alike_symm (st_alike h hi), fun a ha => (h.2.2 a (by rw [h.2.1] at ha; exact ha)).2.1⟩

theorem st_same {V W : List Int} {i : Nat} (h : St V W i) (hi : i ≤ 30) : Under V W ↔ V = W := by
  constructor
  · intro hu
    apply same
    · rw [h.1, h.2.1]
    · intro a ha
      have h1 := hu.2 a ha
      have h2 := h.2.2 a (by rw [h.1] at ha; exact ha)
      omega
  · intro e
    refine ⟨st_alike h hi, fun a ha => ?_⟩
    rw [e]; omega

theorem st_min {V W : List Int} {i : Nat} (h : St V W i) (hi : i ≤ 30) : Made min V W W 0 := by
  refine Or.inl ⟨st_alike h hi, ?_, rfl⟩
  apply same
  · rw [mk_length, h.1, h.2.1]
  · intro a ha
    rw [h.2.1] at ha
    rw [mk_at _ _ _ (by rw [h.1]; exact ha)]
    have h2 := h.2.2 a ha
    omega

theorem has_past (V : List Int) (k : Nat) : ¬ Has V (k : Int) (V.getD k 0 + 1) := fun h => by
  have := h.2.2.2
  simp only [Int.toNat_natCast] at this
  omega

theorem has_now (V : List Int) (k : Nat) (x : Int) (hk : k < V.length) (hx : 1 ≤ x) : Has (V.set k x) (k : Int) x := by
  refine ⟨by omega, by rw [List.length_set]; omega, hx, ?_⟩
  rw [Int.toNat_natCast, set_at _ _ _ _ hk]
  simp

theorem has_all {V W : List Int} {i : Nat} (h : St V W i) {a : Nat} (ha : a < 3) {b : Int} (h1 : 1 ≤ b) (h2 : b ≤ W.getD a 0) : Has V (a : Int) b := by
  have h3 := h.2.2 a ha
  refine ⟨by omega, by rw [h.1]; omega, h1, ?_⟩
  rw [Int.toNat_natCast]
  omega

end Go.Proofs.Ytbindfgjdocpoaa.Ve
