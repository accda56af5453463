/-
  Rows of texts, ascending, each once: plain mathematics.
-/
import Derived.Test.YtedgobdeoheaoaaDots9
import Derived.Shelf.SlicesG.CompactS
namespace Go.Proofs.Ytedgobdeoheaoaa
open Go.RowKit Go.Shelf
set_option linter.unusedVariables false
set_option linter.unusedSimpArgs false

/-- A text, as its bytes. -/
abbrev S8 := List UInt8

theorem s8_lt {a b : S8} (h : ¬ a < b) (h2 : a ≠ b) : b < a := by
  rcases List.le_total a b with h3 | h3
  · exact absurd (List.le_antisymm h3 (List.not_lt.1 h)) h2
  · by_cases h4 : b < a
    · exact h4
    · exact absurd (List.le_antisymm (List.not_lt.1 h4) h3) h2
theorem s8_trans {a b c : S8} (h : a < b) (h2 : b < c) : a < c := List.lt_trans h h2
theorem s8_irr (a : S8) : ¬ a < a := List.lt_irrefl a
theorem s8_asymm {a b : S8} (h : a < b) : ¬ b < a := fun h2 => s8_irr a (s8_trans h h2)

/-- Ascending, each once. -/
def Asc (l : List S8) : Prop := l.Pairwise (· < ·)

/-- Two such rows of the same members are one. -/
theorem asc_one : ∀ {l m : List S8}, Asc l → Asc m → (∀ x, x ∈ l ↔ x ∈ m) → l = m
  | [], [], _, _, _ => rfl
  | [], y :: m, _, _, h => by have := (h y).2 (by simp); simp at this
  | x :: l, [], _, _, h => by have := (h x).1 (by simp); simp at this
  | x :: l, y :: m, hl, hm, h => by
    obtain ⟨hl1, hl2⟩ := List.pairwise_cons.1 hl
    obtain ⟨hm1, hm2⟩ := List.pairwise_cons.1 hm
    have e : x = y := by
      rcases List.mem_cons.1 ((h x).1 (by simp)) with h1 | h1
      · exact h1
      · rcases List.mem_cons.1 ((h y).2 (by simp)) with h2 | h2
        · exact h2.symm
        · exact absurd (hl1 y h2) (s8_asymm (hm1 x h1))
    subst e
    rw [asc_one hl2 hm2 fun z => ⟨fun hz => ?_, fun hz => ?_⟩]
    · rcases List.mem_cons.1 ((h z).1 (List.mem_cons_of_mem _ hz)) with h1 | h1
      · exact absurd (hl1 z hz) (h1 ▸ s8_irr z)
      · exact h1
    · rcases List.mem_cons.1 ((h z).2 (List.mem_cons_of_mem _ hz)) with h1 | h1
      · exact absurd (hm1 z hz) (h1 ▸ s8_irr z)
      · exact h1

/-- How many stand ahead of v. -/
def placeS (l : List S8) (v : S8) : Nat := (l.takeWhile fun x => decide (x < v)).length
theorem placeS_le (l : List S8) (v : S8) : placeS l v ≤ l.length := by
  induction l with
  | nil => simp [placeS]
  | cons x t ih =>
    unfold placeS at *
    rw [List.takeWhile_cons]
    split <;> simp <;> omega
theorem placeS_lt {v : S8} : ∀ {l : List S8} {k : Nat} {x : S8}, k < placeS l v → l[k]? = some x → x < v
  | [], k, x, h, hx => by simp at hx
  | y :: t, k, x, h, hx => by
    unfold placeS at h
    rw [List.takeWhile_cons] at h
    split at h
    · rename_i h1
      cases k with
      | zero => simp at hx; subst hx; simpa using h1
      | succ k => exact placeS_lt (l := t) (k := k) (by unfold placeS; simp at h; omega) (by simpa using hx)
    · simp at h
theorem placeS_at {v : S8} : ∀ {l : List S8} {x : S8}, l[placeS l v]? = some x → ¬ x < v
  | [], x, hx => by simp at hx
  | y :: t, x, hx => by
    unfold placeS at hx
    rw [List.takeWhile_cons] at hx
    split at hx
    · exact placeS_at (l := t) (by unfold placeS; simpa using hx)
    · rename_i h1
      simp at hx
      subst hx
      simpa using h1
/-- Where a walk from the begin stands still. -/
theorem placeS_eq {l : List S8} {v : S8} {k : Nat} (hk : k ≤ l.length) (h1 : ∀ j x, j < k → l[j]? = some x → x < v) (h2 : ∀ x, l[k]? = some x → ¬ x < v) : placeS l v = k := by
  rcases Nat.lt_trichotomy (placeS l v) k with h | h | h
  · have hl : placeS l v < l.length := by omega
    exact absurd (h1 _ _ h (List.getElem?_eq_getElem hl)) (placeS_at (List.getElem?_eq_getElem hl))
  · exact h
  · have hl : k < l.length := by have := placeS_le l v; omega
    exact absurd (placeS_lt h (List.getElem?_eq_getElem hl)) (h2 _ (List.getElem?_eq_getElem hl))

/-- v put into its place, if it is not there. -/
def insS (l : List S8) (v : S8) : List S8 := if l[placeS l v]? = some v then l else l.take (placeS l v) ++ v :: l.drop (placeS l v)

theorem insS_cons_lt {x v : S8} (t : List S8) (h : x < v) : insS (x :: t) v = x :: insS t v := by
  have e : placeS (x :: t) v = placeS t v + 1 := by unfold placeS; rw [List.takeWhile_cons, if_pos (by simpa using h)]; rfl
  unfold insS
  rw [e]
  simp only [List.getElem?_cons_succ, List.take_succ_cons, List.drop_succ_cons]
  split <;> simp
theorem insS_cons_eq (v : S8) (t : List S8) : insS (v :: t) v = v :: t := by
  have e : placeS (v :: t) v = 0 := by unfold placeS; rw [List.takeWhile_cons, if_neg (by simp)]; rfl
  unfold insS
  rw [e]
  simp
theorem insS_cons_gt {x v : S8} (t : List S8) (h : v < x) : insS (x :: t) v = v :: x :: t := by
  have e : placeS (x :: t) v = 0 := by unfold placeS; rw [List.takeWhile_cons, if_neg (by simpa using s8_asymm h)]; rfl
  unfold insS
  rw [e, if_neg (by simp; exact fun e => s8_irr v (by rw [e] at h; exact h))]
  simp
theorem insS_mem {v : S8} : ∀ {l : List S8} {x : S8}, x ∈ insS l v ↔ x ∈ l ∨ x = v
  | [], x => by simp [insS]
  | y :: t, x => by
    by_cases h : y < v
    · rw [insS_cons_lt t h, List.mem_cons, List.mem_cons, insS_mem (l := t)]
      exact ⟨fun hh => by rcases hh with h1 | h1 | h1 <;> simp [h1], fun hh => by rcases hh with (h1 | h1) | h1 <;> simp [h1]⟩
    · by_cases h2 : y = v
      · subst h2
        rw [insS_cons_eq]
        exact ⟨Or.inl, fun hh => by rcases hh with h1 | h1 <;> simp [h1]⟩
      · rw [insS_cons_gt t (s8_lt h h2), List.mem_cons]
        exact Or.comm
theorem insS_asc {v : S8} : ∀ {l : List S8}, Asc l → Asc (insS l v)
  | [], _ => by simp [insS, Asc]
  | y :: t, hl => by
    obtain ⟨h1, h2⟩ := List.pairwise_cons.1 hl
    by_cases h : y < v
    · rw [insS_cons_lt t h]
      refine List.pairwise_cons.2 ⟨fun x hx => ?_, insS_asc h2⟩
      rcases insS_mem.1 hx with h3 | h3
      · exact h1 x h3
      · exact h3 ▸ h
    · by_cases h3 : y = v
      · subst h3
        rw [insS_cons_eq]
        exact hl
      · rw [insS_cons_gt t (s8_lt h h3)]
        refine List.pairwise_cons.2 ⟨fun x hx => ?_, hl⟩
        rcases List.mem_cons.1 hx with h4 | h4
        · exact h4 ▸ s8_lt h h3
        · exact s8_trans (s8_lt h h3) (h1 x h4)
theorem insS_le (l : List S8) (v : S8) : (insS l v).length ≤ l.length + 1 := by
  unfold insS
  split
  · omega
  · have := placeS_le l v
    simp
    omega

/-- The texts, ascending, each once. -/
def setV (l : List S8) : List S8 := l.foldl insS []
theorem setV_step {l : List S8} {i : Nat} {v : S8} (hx : l[i]? = some v) : setV (l.take (i + 1)) = insS (setV (l.take i)) v := by
  unfold setV
  rw [List.take_add_one, hx, List.foldl_append]
  rfl
theorem fold_mem : ∀ (l a : List S8) (x : S8), x ∈ l.foldl insS a ↔ x ∈ a ∨ x ∈ l
  | [], a, x => by simp
  | v :: t, a, x => by
    rw [List.foldl_cons, fold_mem t, insS_mem, List.mem_cons, or_assoc]
theorem setV_mem (l : List S8) (x : S8) : x ∈ setV l ↔ x ∈ l := by rw [setV, fold_mem]; simp
theorem fold_asc : ∀ (l : List S8) {a : List S8}, Asc a → Asc (l.foldl insS a)
  | [], a, h => h
  | v :: t, a, h => fold_asc t (insS_asc h)
theorem setV_asc (l : List S8) : Asc (setV l) := fold_asc l List.Pairwise.nil
theorem fold_le : ∀ (l a : List S8), (l.foldl insS a).length ≤ a.length + l.length
  | [], a => by simp
  | v :: t, a => by
    have := fold_le t (insS a v)
    have := insS_le a v
    simp only [List.foldl_cons, List.length_cons]
    omega
theorem setV_le (l : List S8) : (setV l).length ≤ l.length := by
  have := fold_le l []
  simpa [setV] using this
/-- The row is told by its members. -/
theorem setV_of {l m : List S8} (hm : Asc m) (h : ∀ x, x ∈ m ↔ x ∈ l) : m = setV l := asc_one hm (setV_asc l) fun x => (h x).trans (setV_mem l x).symm

/-- slices.Compact behind slices.Sort. -/
theorem compact_part {zs : List S8} (hs : zs.Pairwise fun a b => ¬ b < a) : ∀ m, m ≤ zs.length → Asc (Lib.compactUpTo zs.toArray m) ∧ ∀ x, x ∈ Lib.compactUpTo zs.toArray m ↔ x ∈ zs.take m
  | 0, _ => ⟨by simp [Lib.compactUpTo, Asc], by simp [Lib.compactUpTo]⟩
  | m + 1, hm => by
    obtain ⟨h1, h2⟩ := compact_part hs m (by omega)
    have em : zs.toArray[m]! = zs[m] := by simp [show m < zs.length by omega]
    have hT : zs.take (m + 1) = zs.take m ++ [zs[m]] := by rw [List.take_add_one, List.getElem?_eq_getElem (by omega)]; rfl
    rw [Lib.compactUpTo_succ]
    by_cases hk : Lib.keeps zs.toArray m = true
    · rw [if_pos hk, em]
      refine ⟨List.pairwise_append.2 ⟨h1, by simp, fun a ha b hb => ?_⟩, fun x => by rw [hT, List.mem_append, List.mem_append, h2]⟩
      obtain rfl : b = zs[m] := by simpa using hb
      obtain ⟨j, hj, rfl⟩ := List.getElem_of_mem ((h2 a).1 ha)
      rw [List.length_take] at hj
      rw [List.getElem_take]
      have hjm : j < m := by omega
      have hle := List.pairwise_iff_getElem.1 hs j m (by omega) (by omega) hjm
      by_cases he : zs[j] = zs[m]
      · exfalso
        have hp : zs.toArray[m - 1]! = zs[m - 1] := by simp [show m - 1 < zs.length by omega]
        have hne : zs[m] ≠ zs[m - 1] := by
          have := hk
          simp only [Lib.keeps, decide_eq_true_eq, em, hp] at this
          rcases this with h | h
          · omega
          · exact h
        have g1 := List.pairwise_iff_getElem.1 hs (m - 1) m (by omega) (by omega) (by omega)
        rcases Nat.lt_or_ge j (m - 1) with hj1 | hj1
        · have g2 := List.pairwise_iff_getElem.1 hs j (m - 1) (by omega) (by omega) hj1
          rw [he] at g2
          exact g1 (s8_lt g2 (fun e => hne e.symm))
        · have : j = m - 1 := by omega
          subst this
          exact hne he.symm
      · by_cases hlt : zs[j] < zs[m]
        · exact hlt
        · exact absurd (s8_lt hlt he) hle
    · rw [if_neg hk, List.append_nil]
      refine ⟨h1, fun x => ?_⟩
      rw [h2, hT, List.mem_append]
      refine ⟨Or.inl, fun hh => ?_⟩
      rcases hh with h | h
      · exact h
      · obtain rfl : x = zs[m] := by simpa using h
        have hm0 : 0 < m := by
          rcases Nat.eq_zero_or_pos m with h0 | h0
          · subst h0; exact absurd (by simp [Lib.keeps]) hk
          · exact h0
        have hp : zs.toArray[m - 1]! = zs[m - 1] := by simp [show m - 1 < zs.length by omega]
        have he : zs[m] = zs[m - 1] := by
          simp only [Lib.keeps, decide_eq_true_eq, em, hp, not_or, Decidable.not_not] at hk
          exact hk.2
        rw [he]
        exact List.mem_take_iff_getElem.2 ⟨m - 1, by omega, rfl⟩

theorem compact_sort (ss : List S8) : Lib.compact (ss.mergeSort fun x y => decide (x ≤ y)) = setV ss := by
  have hp := List.pairwise_mergeSort (le := fun (x y : S8) => decide (x ≤ y)) (by intro a b c; simpa using List.le_trans) (by intro a b; simpa using List.le_total a b) ss
  have hs : (ss.mergeSort fun x y => decide (x ≤ y)).Pairwise fun a b => ¬ b < a := hp.imp (by intro a b h; exact List.not_lt.2 (by simpa using h))
  obtain ⟨h1, h2⟩ := compact_part hs _ (Nat.le_refl _)
  refine setV_of h1 fun x => (h2 x).trans ?_
  rw [List.take_length]
  exact (List.mergeSort_perm ss _).mem_iff

end Go.Proofs.Ytedgobdeoheaoaa
