/-
  Vectors as plain lists of numbers: which may be, which dots one has, the greater and the lesser, which is under which.
-/
namespace Go.Proofs.YtgkddimijmnpcaaGreatDoor.Ve
set_option linter.unusedVariables false

/-- A vector of n nodes. -/
def May (l : List Int) (n : Int) : Prop := 1 ≤ n ∧ n ≤ 16 ∧ (l.length : Int) = n ∧ ∀ i, i < l.length → 0 ≤ l.getD i 0 ∧ l.getD i 0 ≤ 1048575

/-- Vectors of one cluster. -/
def Alike (a b : List Int) : Prop := May a a.length ∧ May b a.length

def Under (a b : List Int) : Prop := Alike a b ∧ ∀ i, i < a.length → a.getD i 0 ≤ b.getD i 0

def Has (l : List Int) (k s : Int) : Prop := 0 ≤ k ∧ k < l.length ∧ 1 ≤ s ∧ s ≤ l.getD k.toNat 0

/-- A number out of each two. -/
def mk (f : Int → Int → Int) (a b : List Int) : List Int := (List.range a.length).map fun i => f (a.getD i 0) (b.getD i 0)

/-- What Max and Min answer. -/
def Made (f : Int → Int → Int) (a b l : List Int) (n : Int) : Prop := (Alike a b ∧ l = mk f a b ∧ n = 0) ∨ (¬ Alike a b ∧ l = [] ∧ n = 400)

theorem bool_of (P : Prop) : ∃ b : Bool, b = true ↔ P := by
  by_cases h : P
  · exact ⟨true, by simp [h]⟩
  · exact ⟨false, by simp [h]⟩

theorem made_of (f : Int → Int → Int) (a b : List Int) : ∃ l n, Made f a b l n := by
  by_cases h : Alike a b
  · exact ⟨_, _, Or.inl ⟨h, rfl, rfl⟩⟩
  · exact ⟨_, _, Or.inr ⟨h, rfl, rfl⟩⟩

theorem mk_length (f : Int → Int → Int) (a b : List Int) : (mk f a b).length = a.length := by simp [mk]

theorem mk_at (f : Int → Int → Int) (a b : List Int) {i : Nat} (h : i < a.length) : (mk f a b).getD i 0 = f (a.getD i 0) (b.getD i 0) := by
  simp [mk, List.getD, h]

theorem same {l m : List Int} (hl : l.length = m.length) (h : ∀ i, i < l.length → l.getD i 0 = m.getD i 0) : l = m := by
  apply List.ext_getElem hl
  intro i h1 h2
  have := h i h1
  simpa [List.getD, h1, h2] using this

theorem take_snoc (l : List Int) (i : Nat) (h : i < l.length) : l.take (i + 1) = l.take i ++ [l.getD i 0] := by
  rw [List.take_add_one, List.getElem?_eq_getElem h]
  simp [List.getD, h]

theorem max_if (x y : Int) : (if x < y then y else x) = max x y := by split <;> omega

theorem min_if (x y : Int) : (if y < x then y else x) = min x y := by split <;> omega

theorem alike_length {a b : List Int} (h : Alike a b) : b.length = a.length := by
  have := h.2.2.2.1; omega

theorem alike_symm {a b : List Int} (h : Alike a b) : Alike b a := by
  have e := alike_length h
  refine ⟨?_, ?_⟩
  · rw [e]; exact h.2
  · rw [e]; exact h.1

theorem alike_max {a b : List Int} (h : Alike a b) : May (mk max a b) a.length := by
  refine ⟨h.1.1, h.1.2.1, by rw [mk_length], fun i hi => ?_⟩
  rw [mk_length] at hi
  rw [mk_at _ _ _ hi]
  have h1 := h.1.2.2.2 i hi
  have h2 := h.2.2.2.2 i (by rw [alike_length h]; exact hi)
  omega

theorem alike_min {a b : List Int} (h : Alike a b) : May (mk min a b) a.length := by
  refine ⟨h.1.1, h.1.2.1, by rw [mk_length], fun i hi => ?_⟩
  rw [mk_length] at hi
  rw [mk_at _ _ _ hi]
  have h1 := h.1.2.2.2 i hi
  have h2 := h.2.2.2.2 i (by rw [alike_length h]; exact hi)
  omega

end Go.Proofs.YtgkddimijmnpcaaGreatDoor.Ve

