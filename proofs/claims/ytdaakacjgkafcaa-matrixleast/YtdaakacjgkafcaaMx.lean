/-
  Matrices as plain lists of rows: which may be, what is learned, the least of all rows.
-/
import Derived.Test.YtdaakacjgkafcaaVe
namespace Go.Proofs.Ytdaakacjgkafcaa.Mx
set_option linter.unusedVariables false

/-- Some rows, each of which is a vector of as many nodes. -/
def Good (rows : List (List Int)) : Prop := 1 ≤ rows.length ∧ rows.length ≤ 16 ∧ ∀ i, i < rows.length → Ve.May (rows.getD i []) rows.length

def Node (rows : List (List Int)) (node : Int) : Prop := 0 ≤ node ∧ node < rows.length

/-- The row of a node is the greater of it and v. -/
def told (rows : List (List Int)) (k : Nat) (v : List Int) : List (List Int) := rows.set k (Ve.mk max (rows.getD k []) v)

/-- What Learn answers, and what the rows are behind it. -/
def Learnt (rows : List (List Int)) (node : Int) (v : List Int) (rows' : List (List Int)) (n : Int) : Prop :=
  (Node rows node ∧ Ve.May v rows.length ∧ rows' = told rows node.toNat v ∧ n = 0) ∨ (¬ (Node rows node ∧ Ve.May v rows.length) ∧ rows' = rows ∧ n = 500)

/-- What Row answers. -/
def Rowed (rows : List (List Int)) (node : Int) (l : List Int) (n : Int) : Prop :=
  (Node rows node ∧ l = rows.getD node.toNat [] ∧ n = 0) ∨ (¬ Node rows node ∧ l = [] ∧ n = 500)

def least (rows : List (List Int)) : List Int := rows.tail.foldl (Ve.mk min) (rows.getD 0 [])

def zeros (n : Nat) : List (List Int) := List.replicate n (List.replicate n 0)

theorem learnt_of (rows : List (List Int)) (node : Int) (v : List Int) : ∃ rows' n, Learnt rows node v rows' n := by
  by_cases h : Node rows node ∧ Ve.May v rows.length
  · exact ⟨_, _, Or.inl ⟨h.1, h.2, rfl, rfl⟩⟩
  · exact ⟨_, _, Or.inr ⟨h, rfl, rfl⟩⟩

theorem rowed_of (rows : List (List Int)) (node : Int) : ∃ l n, Rowed rows node l n := by
  by_cases h : Node rows node
  · exact ⟨_, _, Or.inl ⟨h, rfl, rfl⟩⟩
  · exact ⟨_, _, Or.inr ⟨h, rfl, rfl⟩⟩

theorem zeros_length (n : Nat) : (zeros n).length = n := by simp [zeros]

theorem zeros_at {n i : Nat} (h : i < n) : (zeros n).getD i [] = List.replicate n 0 := by simp [zeros, List.getD, h]

theorem may_zeros {n : Nat} (h1 : 1 ≤ n) (h2 : n ≤ 16) : Ve.May (List.replicate n 0) n := by
  refine ⟨by omega, by omega, by simp, fun i hi => ?_⟩
  have e : (List.replicate n (0 : Int)).getD i 0 = 0 := by
    simp only [List.length_replicate] at hi
    simp [List.getD, hi]
  omega

theorem good_zeros {n : Nat} (h1 : 1 ≤ n) (h2 : n ≤ 16) : Good (zeros n) := by
  refine ⟨by rw [zeros_length]; exact h1, by rw [zeros_length]; exact h2, fun i hi => ?_⟩
  rw [zeros_length] at hi ⊢
  rw [zeros_at hi]
  exact may_zeros h1 h2

theorem Good.row {rows : List (List Int)} (h : Good rows) {i : Nat} (hi : i < rows.length) : (rows.getD i []).length = rows.length := by
  have := (h.2.2 i hi).2.2.1
  omega

theorem told_length (rows : List (List Int)) (k : Nat) (v : List Int) : (told rows k v).length = rows.length := by simp [told]

theorem told_at (rows : List (List Int)) {k i : Nat} (v : List Int) (hi : i < rows.length) : (told rows k v).getD i [] = if k = i then Ve.mk max (rows.getD k []) v else rows.getD i [] := by
  unfold told
  by_cases e : k = i
  · subst e
    simp [List.getD, hi]
  · rw [if_neg e]
    simp [List.getD, List.getElem?_set_ne e]

theorem Good.alike {rows : List (List Int)} (h : Good rows) {i : Nat} (hi : i < rows.length) {v : List Int} (hv : Ve.May v rows.length) : Ve.Alike (rows.getD i []) v := by
  have e := h.row hi
  exact ⟨by rw [e]; exact h.2.2 i hi, by rw [e]; exact hv⟩

theorem Good.told {rows : List (List Int)} (h : Good rows) {k : Nat} (hk : k < rows.length) {v : List Int} (hv : Ve.May v rows.length) : Good (told rows k v) := by
  refine ⟨by rw [told_length]; exact h.1, by rw [told_length]; exact h.2.1, fun i hi => ?_⟩
  rw [told_length] at hi ⊢
  rw [told_at rows v hi]
  split
  · have := Ve.alike_max (h.alike hk hv)
    rwa [h.row hk] at this
  · exact h.2.2 i hi

theorem Good.learnt {rows rows' : List (List Int)} (h : Good rows) {node n : Int} {v : List Int} (hl : Learnt rows node v rows' n) : Good rows' ∧ rows'.length = rows.length := by
  rcases hl with ⟨h1, h2, rfl, _⟩ | ⟨_, rfl, _⟩
  · refine ⟨h.told (by have := h1.1; have := h1.2; omega) h2, told_length _ _ _⟩
  · exact ⟨h, rfl⟩

/-- One more row is looked at. -/
theorem fold_step {L acc : List Int} {rs : List (List Int)} {i : Nat} (hi : i < rs.length) (h : (rs.drop i).foldl (Ve.mk min) acc = L) : (rs.drop (i + 1)).foldl (Ve.mk min) (Ve.mk min acc (rs.getD i [])) = L := by
  rw [List.drop_eq_getElem_cons hi, List.foldl_cons] at h
  have e : rs.getD i [] = rs[i] := by simp [List.getD, hi]
  rw [e]
  exact h

theorem fold_length (rs : List (List Int)) : ∀ acc : List Int, (rs.foldl (Ve.mk min) acc).length = acc.length := by
  induction rs with
  | nil => intro acc; rfl
  | cons r rs ih => intro acc; simp only [List.foldl_cons]; rw [ih, Ve.mk_length]

theorem fold_at (rs : List (List Int)) (j : Nat) : ∀ acc : List Int, j < acc.length → (rs.foldl (Ve.mk min) acc).getD j 0 ≤ acc.getD j 0 ∧ (∀ i, i < rs.length → (rs.foldl (Ve.mk min) acc).getD j 0 ≤ (rs.getD i []).getD j 0) ∧ ((rs.foldl (Ve.mk min) acc).getD j 0 = acc.getD j 0 ∨ ∃ i, i < rs.length ∧ (rs.foldl (Ve.mk min) acc).getD j 0 = (rs.getD i []).getD j 0) := by
  induction rs with
  | nil => intro acc hj; exact ⟨Int.le_refl _, fun i hi => by simp at hi, Or.inl rfl⟩
  | cons r rs ih =>
    intro acc hj
    have hj2 : j < (Ve.mk min acc r).length := by rw [Ve.mk_length]; exact hj
    obtain ⟨h1, h2, h3⟩ := ih (Ve.mk min acc r) hj2
    rw [Ve.mk_at _ _ _ hj] at h1 h3
    simp only [List.foldl_cons]
    refine ⟨by omega, fun i hi => ?_, ?_⟩
    · rcases i with _ | i
      · simp only [List.getD_cons_zero]; omega
      · simp only [List.length_cons] at hi
        simpa [List.getD] using h2 i (by omega)
    · rcases h3 with h3 | ⟨i, hi, h3⟩
      · by_cases e : acc.getD j 0 ≤ r.getD j 0
        · left; omega
        · right
          exact ⟨0, by simp, by simp only [List.getD_cons_zero]; omega⟩
      · right
        exact ⟨i + 1, by simp; omega, by simpa [List.getD] using h3⟩

theorem tail_getD (rows : List (List Int)) (i : Nat) : rows.tail.getD i [] = rows.getD (i + 1) [] := by simp [List.getD]

theorem least_length {rows : List (List Int)} (h : Good rows) : (least rows).length = rows.length := by
  unfold least
  rw [fold_length, h.row h.1]

/-- The least is under each row. -/
theorem least_le {rows : List (List Int)} (h : Good rows) {i j : Nat} (hi : i < rows.length) (hj : j < rows.length) : (least rows).getD j 0 ≤ (rows.getD i []).getD j 0 := by
  have e := h.row h.1
  obtain ⟨h1, h2, _⟩ := fold_at rows.tail j (rows.getD 0 []) (by omega)
  rcases i with _ | i
  · exact h1
  · have := h2 i (by simp; omega)
    rwa [tail_getD] at this

/-- At each place it is some row's. -/
theorem least_some {rows : List (List Int)} (h : Good rows) {j : Nat} (hj : j < rows.length) : ∃ i, i < rows.length ∧ (least rows).getD j 0 = (rows.getD i []).getD j 0 := by
  have e := h.row h.1
  obtain ⟨_, _, h3⟩ := fold_at rows.tail j (rows.getD 0 []) (by omega)
  rcases h3 with h3 | ⟨i, hi, h3⟩
  · exact ⟨0, h.1, h3⟩
  · simp only [List.length_tail] at hi
    exact ⟨i + 1, by omega, by rw [← tail_getD]; exact h3⟩

theorem may_least {rows : List (List Int)} (h : Good rows) : Ve.May (least rows) rows.length := by
  refine ⟨by have := h.1; omega, by have := h.2.1; omega, by rw [least_length h], fun j hj => ?_⟩
  rw [least_length h] at hj
  obtain ⟨i, hi, e⟩ := least_some h hj
  rw [e]
  exact (h.2.2 i hi).2.2.2 j (by rw [h.row hi]; exact hj)

/-- It never falls. -/
theorem least_grows {rows rows' : List (List Int)} (h : Good rows) {node n : Int} {v : List Int} (hl : Learnt rows node v rows' n) : Ve.Under (least rows) (least rows') := by
  obtain ⟨g, e⟩ := h.learnt hl
  refine ⟨⟨by rw [least_length h]; exact may_least h, by rw [least_length h, ← e]; exact may_least g⟩, fun j hj => ?_⟩
  rw [least_length h] at hj
  obtain ⟨i, hi, h3⟩ := least_some g (j := j) (by omega)
  rw [h3]
  have h4 := least_le h (i := i) (j := j) (by omega) hj
  rcases hl with ⟨h1, h2, rfl, _⟩ | ⟨_, rfl, _⟩
  · rw [told_at rows v (by omega)]
    split
    · rename_i h5
      have hk : node.toNat < rows.length := by have := h1.1; have := h1.2; omega
      rw [Ve.mk_at _ _ _ (by rw [h.row hk]; exact hj)]
      rw [h5]
      omega
    · exact h4
  · exact h4

end Go.Proofs.Ytdaakacjgkafcaa.Mx
