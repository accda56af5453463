/-
  Rows of entries by their dots, what is put in whichever row, what a drop leaves, how many dots the values have: plain mathematics.
-/
import Derived.Test.YtedgobdeoheaoaaSets9
import Derived.Laws.Strings
namespace Go.Proofs.Ytedgobdeoheaoaa
open Go.RowKit Go.Shelf
set_option linter.unusedVariables false
set_option linter.unusedSimpArgs false

/-- Sorted by dots, each once. -/
def SortE (l : List E3) : Prop := l.Pairwise fun x y => ltD (dotE x) (dotE y) = true

theorem ltD_trans {a b c : D2} (h : ltD a b = true) (h2 : ltD b c = true) : ltD a c = true := by
  unfold ltD at *
  simp only [decide_eq_true_eq] at *
  omega
theorem ltD_irr (a : D2) : ltD a a = false := by
  unfold ltD
  simp only [decide_eq_false_iff_not]
  omega
theorem ltD_asymm {a b : D2} (h : ltD a b = true) : ltD b a = false := by
  unfold ltD at *
  simp only [decide_eq_true_eq, decide_eq_false_iff_not] at *
  omega
theorem ltD_tri {a b : D2} (h : ltD a b = false) (h2 : a ≠ b) : ltD b a = true := by
  obtain ⟨a1, a2⟩ := a
  obtain ⟨b1, b2⟩ := b
  have h3 : ¬ (a1 = b1 ∧ a2 = b2) := fun e => h2 (by rw [e.1, e.2])
  unfold ltD at *
  simp only [decide_eq_true_eq, decide_eq_false_iff_not] at *
  omega

theorem putL_mem (l : List E3) (d : D2) (v : ByteArray) (x : E3) : x ∈ putL l d v ↔ x ∈ l ∨ x = ⟨d.1, d.2, v⟩ := by
  unfold putL insE
  constructor
  · intro h
    rcases List.mem_append.1 h with h | h
    · exact Or.inl (List.mem_of_mem_take h)
    · rcases List.mem_cons.1 h with h | h
      · exact Or.inr h
      · exact Or.inl (List.mem_of_mem_drop h)
  · intro h
    rcases h with h | h
    · rw [← List.take_append_drop (placeD l d) l] at h
      rcases List.mem_append.1 h with h | h
      · exact List.mem_append.2 (Or.inl h)
      · exact List.mem_append.2 (Or.inr (List.mem_cons_of_mem _ h))
    · exact List.mem_append.2 (Or.inr (by rw [h]; simp))

theorem placeD_nil (d : D2) : placeD [] d = 0 := rfl
theorem placeD_cons (a : E3) (l : List E3) (d : D2) : placeD (a :: l) d = if ltD d (dotE a) = true then 0 else placeD l d + 1 := by
  unfold placeD
  rw [List.takeWhile_cons]
  cases h : ltD d (dotE a) <;> simp

theorem putL_cons_lt (a : E3) (l : List E3) (d : D2) (v : ByteArray) (h : ltD d (dotE a) = true) : putL (a :: l) d v = ⟨d.1, d.2, v⟩ :: a :: l := by
  unfold putL insE
  rw [placeD_cons, if_pos h]
  simp
theorem putL_cons_ge (a : E3) (l : List E3) (d : D2) (v : ByteArray) (h : ltD d (dotE a) = false) : putL (a :: l) d v = a :: putL l d v := by
  unfold putL insE
  rw [placeD_cons, if_neg (by simp [h])]
  simp

theorem putL_len (l : List E3) (d : D2) (v : ByteArray) : (putL l d v).length = l.length + 1 := by
  induction l with
  | nil => rfl
  | cons a l ih =>
    cases h : ltD d (dotE a) with
    | true => rw [putL_cons_lt a l d v h]; simp
    | false => rw [putL_cons_ge a l d v h]; simp [ih]

theorem hasD_iff (l : List E3) (d : D2) : hasD l d = true ↔ ∃ x ∈ l, dotE x = d := by
  unfold hasD
  rw [List.any_eq_true]
  simp
theorem hasD_no {l : List E3} {d : D2} (h : ∀ x ∈ l, dotE x ≠ d) : hasD l d = false := by
  cases e : hasD l d with
  | false => rfl
  | true =>
    obtain ⟨x, hx, h2⟩ := (hasD_iff l d).1 e
    exact absurd h2 (h x hx)

theorem putL_sort {l : List E3} {d : D2} {v : ByteArray} (hl : SortE l) (hn : ∀ x ∈ l, dotE x ≠ d) : SortE (putL l d v) := by
  induction l with
  | nil => exact List.pairwise_singleton _ _
  | cons a l ih =>
    obtain ⟨h1, h2⟩ := List.pairwise_cons.1 hl
    cases h : ltD d (dotE a) with
    | true =>
      rw [putL_cons_lt a l d v h]
      refine List.pairwise_cons.2 ⟨fun x hx => ?_, hl⟩
      rcases List.mem_cons.1 hx with rfl | hx
      · exact h
      · exact ltD_trans h (h1 x hx)
    | false =>
      rw [putL_cons_ge a l d v h]
      refine List.pairwise_cons.2 ⟨fun x hx => ?_, ih h2 fun x hx => hn x (List.mem_cons_of_mem _ hx)⟩
      rcases (putL_mem l d v x).1 hx with hx | rfl
      · exact h1 x hx
      · exact ltD_tri h (fun e => hn a (by simp) e.symm)

/-- Two such rows of the same members are one. -/
theorem sort_one : ∀ {l m : List E3}, SortE l → SortE m → (∀ x, x ∈ l ↔ x ∈ m) → l = m
  | [], [], _, _, _ => rfl
  | [], y :: m, _, _, h => by have := (h y).2 (by simp); simp at this
  | x :: l, [], _, _, h => by have := (h x).1 (by simp); simp at this
  | x :: l, y :: m, hl, hm, h => by
    obtain ⟨hl1, hl2⟩ := List.pairwise_cons.1 hl
    obtain ⟨hm1, hm2⟩ := List.pairwise_cons.1 hm
    have e : x = y := by
      rcases List.mem_cons.1 ((h x).1 (by simp)) with h1 | h1
      · exact h1
      · rcases List.mem_cons.1 ((h y).2 (by simp)) with h2 | h2
        · exact h2.symm
        · have a := hl1 y h2
          have b := ltD_asymm (hm1 x h1)
          rw [a] at b
          simp at b
    subst e
    have irr : ∀ z, ltD (dotE z) (dotE z) = true → False := fun z h => by rw [ltD_irr] at h; simp at h
    rw [sort_one hl2 hm2 fun z => ⟨fun hz => ?_, fun hz => ?_⟩]
    · rcases List.mem_cons.1 ((h z).1 (List.mem_cons_of_mem _ hz)) with h1 | h1
      · exact (irr x (by have := hl1 z hz; rw [h1] at this; exact this)).elim
      · exact h1
    · rcases List.mem_cons.1 ((h z).2 (List.mem_cons_of_mem _ hz)) with h1 | h1
      · exact (irr x (by have := hm1 z hz; rw [h1] at this; exact this)).elim
      · exact h1

theorem dotN_inj {i j : Nat} (h : dotN i = dotN j) : i = j := by
  unfold dotN at h
  simp only [Prod.mk.injEq] at h
  omega

/-- The n-th entry. -/
def entN (f : Nat → ByteArray) (i : Nat) : E3 := ⟨(dotN i).1, (dotN i).2, f i⟩
theorem dot_entN (f : Nat → ByteArray) (i : Nat) : dotE (entN f i) = dotN i := rfl

/-- The entries once those of g 0 .. g (i - 1) were put. -/
def accL (f : Nat → ByteArray) (g : Nat → Nat) : Nat → List E3
  | 0 => []
  | i + 1 => putL (accL f g i) (dotN (g i)) (f (g i))

theorem accL_mem (f : Nat → ByteArray) (g : Nat → Nat) (i : Nat) (x : E3) : x ∈ accL f g i ↔ ∃ j, j < i ∧ x = entN f (g j) := by
  induction i with
  | zero => simp [accL]
  | succ i ih =>
    rw [accL, putL_mem, ih]
    constructor
    · rintro (⟨j, h1, h2⟩ | h)
      · exact ⟨j, by omega, h2⟩
      · exact ⟨i, by omega, h⟩
    · rintro ⟨j, h1, h2⟩
      by_cases h : j = i
      · subst h; exact Or.inr h2
      · exact Or.inl ⟨j, by omega, h2⟩
theorem accL_len (f : Nat → ByteArray) (g : Nat → Nat) (i : Nat) : (accL f g i).length = i := by
  induction i with
  | zero => rfl
  | succ i ih => rw [accL, putL_len, ih]
theorem accL_free (f : Nat → ByteArray) (g : Nat → Nat) (i : Nat) (hg : ∀ j, j < i → g j ≠ g i) : ∀ x ∈ accL f g i, dotE x ≠ dotN (g i) := fun x hx h => by
  obtain ⟨j, h1, rfl⟩ := (accL_mem f g i x).1 hx
  exact hg j h1 (dotN_inj h)
theorem accL_sort (f : Nat → ByteArray) (g : Nat → Nat) (i : Nat) (hg : ∀ j k, j < k → k < i → g j ≠ g k) : SortE (accL f g i) := by
  induction i with
  | zero => exact List.Pairwise.nil
  | succ i ih => exact putL_sort (ih fun j k h1 h2 => hg j k h1 (by omega)) (accL_free f g i fun j h => hg j i h (by omega))
theorem accL_small (f : Nat → ByteArray) (g : Nat → Nat) (i : Nat) (hi : i ≤ 64) (hf : ∀ j, j < i → (f (g j)).size ≤ 256) : Small (accL f g i) :=
  ⟨by rw [accL_len]; exact hi, fun x hx => by
    obtain ⟨j, h1, rfl⟩ := (accL_mem f g i x).1 hx
    exact hf j h1⟩

/-- In whichever row they were put. -/
theorem accL_rev (f : Nat → ByteArray) (k : Nat) : accL f (fun j => k - 1 - j) k = accL f (fun j => j) k := by
  refine sort_one (accL_sort _ _ _ fun a b h1 h2 => by omega) (accL_sort _ _ _ fun a b h1 h2 => by omega) fun x => ?_
  rw [accL_mem, accL_mem]
  constructor
  · rintro ⟨j, h1, h2⟩
    exact ⟨k - 1 - j, by omega, h2⟩
  · rintro ⟨j, h1, h2⟩
    exact ⟨k - 1 - j, by omega, by rw [h2, show k - 1 - (k - 1 - j) = j by omega]⟩

theorem eqS_iff (a b : ByteArray) : eqS a b = true ↔ a = b := by
  unfold eqS
  rw [beq_iff_eq]
  constructor
  · intro h
    apply ByteArray.ext
    have h2 : a.data.toList = b.data.toList := by simpa [ByteArray.toList_eq] using h
    simpa using h2
  · intro h
    rw [h]

/-- The dots that are to go, of the first i. -/
def goneL (b : Nat → Bool) : Nat → List D2
  | 0 => []
  | i + 1 => goneL b i ++ (if b i = true then [dotN i] else [])
theorem goneL_mem (b : Nat → Bool) (i : Nat) (d : D2) : d ∈ goneL b i ↔ ∃ j, j < i ∧ b j = true ∧ d = dotN j := by
  induction i with
  | zero => simp [goneL]
  | succ i ih =>
    rw [goneL, List.mem_append, ih]
    constructor
    · rintro (⟨j, h1, h2⟩ | h)
      · exact ⟨j, by omega, h2⟩
      · by_cases hb : b i = true
        · rw [if_pos hb] at h
          exact ⟨i, by omega, hb, by simpa using h⟩
        · rw [if_neg hb] at h
          simp at h
    · rintro ⟨j, h1, h2, h3⟩
      by_cases h : j = i
      · subst h; exact Or.inr (by rw [if_pos h2, h3]; simp)
      · exact Or.inl ⟨j, by omega, h2, h3⟩
theorem goneL_le (b : Nat → Bool) (i : Nat) : (goneL b i).length ≤ i := by
  induction i with
  | zero => simp [goneL]
  | succ i ih =>
    rw [goneL, List.length_append]
    split <;> simp <;> omega
theorem goneL_at {b : Nat → Bool} {j k : Nat} (h : j < k) : decide (dotN j ∈ goneL b k) = b j := by
  cases hb : b j with
  | true => exact decide_eq_true ((goneL_mem b k _).2 ⟨j, h, hb, rfl⟩)
  | false =>
    refine decide_eq_false fun h2 => ?_
    obtain ⟨i, h1, h3, h4⟩ := (goneL_mem b k _).1 h2
    rw [dotN_inj h4, h3] at hb
    simp at hb

theorem filter_putL (P : E3 → Bool) (l : List E3) (d : D2) (v : ByteArray) : ((putL l d v).filter P).length = (l.filter P).length + (if P ⟨d.1, d.2, v⟩ = true then 1 else 0) := by
  induction l with
  | nil =>
    show (List.filter P [(⟨d.1, d.2, v⟩ : E3)]).length = _
    rw [List.filter_cons]
    split <;> simp
  | cons a l ih =>
    cases h : ltD d (dotE a) with
    | true =>
      rw [putL_cons_lt a l d v h, List.filter_cons]
      split <;> simp
    | false =>
      rw [putL_cons_ge a l d v h, List.filter_cons, List.filter_cons]
      split <;> simp [ih]
      omega

theorem drop_len (f : Nat → ByteArray) (b : Nat → Bool) (k : Nat) : ∀ i, i ≤ k → ((accL f (fun j => j) i).filter fun x => !decide (dotE x ∈ goneL b k)).length + (goneL b i).length = i
  | 0, _ => by simp [accL, goneL]
  | i + 1, h => by
    have ih := drop_len f b k i (by omega)
    rw [accL, filter_putL, goneL, List.length_append]
    have e : decide (dotE ⟨(dotN i).1, (dotN i).2, f i⟩ ∈ goneL b k) = b i := goneL_at (by omega)
    rw [e]
    cases hb : b i with
    | true => simp; omega
    | false => simp; omega
theorem drop_count (f : Nat → ByteArray) (b : Nat → Bool) (k : Nat) : (dropL (accL f (fun j => j) k) (goneL b k)).length + (goneL b k).length = k := drop_len f b k k (Nat.le_refl _)
theorem drop_mem (f : Nat → ByteArray) (b : Nat → Bool) (k : Nat) (x : E3) : x ∈ dropL (accL f (fun j => j) k) (goneL b k) ↔ ∃ j, j < k ∧ b j = false ∧ x = entN f j := by
  unfold dropL
  rw [List.mem_filter, accL_mem]
  constructor
  · rintro ⟨⟨j, h1, rfl⟩, h3⟩
    rw [dot_entN, goneL_at h1] at h3
    exact ⟨j, h1, by simpa using h3, rfl⟩
  · rintro ⟨j, h1, h2, rfl⟩
    refine ⟨⟨j, h1, rfl⟩, ?_⟩
    rw [dot_entN, goneL_at h1, h2]
    rfl

theorem small_drop {l : List E3} (h : Small l) (ds : List D2) : Small (dropL l ds) :=
  ⟨Nat.le_trans (List.length_filter_le _ _) h.1, fun x hx => h.2 x (List.mem_filter.1 hx).1⟩

/-- The first m values that stand. -/
def wantL (q : Nat → S8) (s : Nat → Bool) : Nat → List S8
  | 0 => []
  | m + 1 => wantL q s m ++ (if s m = true then [q m] else [])
theorem wantL_mem (q : Nat → S8) (s : Nat → Bool) (m : Nat) (x : S8) : x ∈ wantL q s m ↔ ∃ j, j < m ∧ s j = true ∧ x = q j := by
  induction m with
  | zero => simp [wantL]
  | succ i ih =>
    rw [wantL, List.mem_append, ih]
    constructor
    · rintro (⟨j, h1, h2⟩ | h)
      · exact ⟨j, by omega, h2⟩
      · by_cases hb : s i = true
        · rw [if_pos hb] at h
          exact ⟨i, by omega, hb, by simpa using h⟩
        · rw [if_neg hb] at h
          simp at h
    · rintro ⟨j, h1, h2, h3⟩
      by_cases h : j = i
      · subst h; exact Or.inr (by rw [if_pos h2, h3]; simp)
      · exact Or.inl ⟨j, by omega, h2, h3⟩
theorem wantL_le (q : Nat → S8) (s : Nat → Bool) (m : Nat) : (wantL q s m).length ≤ m := by
  induction m with
  | zero => simp [wantL]
  | succ i ih =>
    rw [wantL, List.length_append]
    split <;> simp <;> omega
theorem wantL_asc (q : Nat → S8) (s : Nat → Bool) (m : Nat) (hq : ∀ i j, i < j → j < m → q i < q j) : Asc (wantL q s m) := by
  induction m with
  | zero => exact List.Pairwise.nil
  | succ i ih =>
    rw [wantL]
    refine List.pairwise_append.2 ⟨ih fun a b h1 h2 => hq a b h1 (by omega), ?_, fun x hx y hy => ?_⟩
    · split
      · exact List.pairwise_singleton _ _
      · exact List.Pairwise.nil
    · obtain ⟨j, h1, h2, rfl⟩ := (wantL_mem q s i x).1 hx
      by_cases hb : s i = true
      · rw [if_pos hb] at hy
        obtain rfl : y = q i := by simpa using hy
        exact hq j i h1 (by omega)
      · rw [if_neg hb] at hy
        simp at hy

/-- Is value m put by one of the first i that stays? -/
def stays (b : Nat → Bool) (p : Nat → Nat) : Nat → Nat → Bool
  | 0, _ => false
  | i + 1, m => stays b p i m || (!b i && decide (p i = m))
theorem stays_iff (b : Nat → Bool) (p : Nat → Nat) (i m : Nat) : stays b p i m = true ↔ ∃ j, j < i ∧ b j = false ∧ p j = m := by
  induction i with
  | zero => simp [stays]
  | succ i ih =>
    rw [stays, Bool.or_eq_true, ih]
    simp only [Bool.and_eq_true, Bool.not_eq_true', decide_eq_true_eq]
    constructor
    · rintro (⟨j, h1, h2⟩ | h)
      · exact ⟨j, by omega, h2⟩
      · exact ⟨i, by omega, h⟩
    · rintro ⟨j, h1, h2, h3⟩
      by_cases h : j = i
      · subst h; exact Or.inr ⟨h2, h3⟩
      · exact Or.inl ⟨j, by omega, h2, h3⟩

/-- What the set tells behind the drop. -/
theorem rows_vals (q : Nat → S8) (b : Nat → Bool) (p : Nat → Nat) (k M : Nat) (hq : ∀ i j, i < j → j < M → q i < q j) (hp : ∀ j, j < k → p j < M) :
    setV (valsL (dropL (accL (fun j => ⟨(q (p j)).toArray⟩) (fun j => j) k) (goneL b k))) = wantL q (stays b p k) M := by
  refine (setV_of (wantL_asc q _ M hq) fun x => ?_).symm
  rw [wantL_mem]
  unfold valsL
  rw [List.mem_map]
  constructor
  · rintro ⟨m, h1, h2, rfl⟩
    obtain ⟨j, h3, h4, rfl⟩ := (stays_iff b p k m).1 h2
    exact ⟨_, (drop_mem _ b k _).2 ⟨j, h3, h4, rfl⟩, by simp [entN]⟩
  · rintro ⟨y, hy, rfl⟩
    obtain ⟨j, h3, h4, rfl⟩ := (drop_mem _ b k _).1 hy
    exact ⟨p j, hp j h3, (stays_iff b p k _).2 ⟨j, h3, h4, rfl⟩, by simp [entN]⟩

theorem bytes_eq {a b : ByteArray} (h : a.data.toList = b.data.toList) : a = b := by
  apply ByteArray.ext
  simpa using h
theorem bytes_back (a : ByteArray) : (⟨a.data.toList.toArray⟩ : ByteArray) = a := by simp

/-! One value, put many times. -/

theorem sees_dots (v : ByteArray) (k : Nat) : dotsL (accL (fun _ => v) (fun j => j) k) v = (accL (fun _ => v) (fun j => j) k).map dotE := by
  unfold dotsL
  rw [List.filter_eq_self.2]
  intro x hx
  obtain ⟨j, h1, rfl⟩ := (accL_mem _ _ _ x).1 hx
  exact (eqS_iff _ _).2 rfl
theorem sees_mem (v : ByteArray) (k : Nat) (d : D2) : d ∈ dotsL (accL (fun _ => v) (fun j => j) k) v ↔ ∃ j, j < k ∧ d = dotN j := by
  rw [sees_dots, List.mem_map]
  constructor
  · rintro ⟨x, hx, rfl⟩
    obtain ⟨j, h1, rfl⟩ := (accL_mem _ _ _ x).1 hx
    exact ⟨j, h1, rfl⟩
  · rintro ⟨j, h1, rfl⟩
    exact ⟨entN (fun _ => v) j, (accL_mem _ _ _ _).2 ⟨j, h1, rfl⟩, rfl⟩
theorem sees_len (v : ByteArray) (k : Nat) : (dotsL (accL (fun _ => v) (fun j => j) k) v).length = k := by rw [sees_dots, List.length_map, accL_len]
theorem sees_none (v : ByteArray) (k : Nat) : dropL (accL (fun _ => v) (fun j => j) k) (dotsL (accL (fun _ => v) (fun j => j) k) v) = [] := by
  unfold dropL
  rw [List.filter_eq_nil_iff]
  intro x hx
  obtain ⟨j, h1, rfl⟩ := (accL_mem _ _ _ x).1 hx
  simp only [Bool.not_eq_true', decide_eq_false_iff_not, Decidable.not_not]
  exact (sees_mem v k _).2 ⟨j, h1, rfl⟩
theorem sees_one (v : ByteArray) (k : Nat) : dropL (accL (fun _ => v) (fun j => j) (k + 1)) (dotsL (accL (fun _ => v) (fun j => j) k) v) = [entN (fun _ => v) k] := by
  refine sort_one ?_ (List.pairwise_singleton _ _) fun x => ?_
  · exact List.Pairwise.sublist List.filter_sublist (accL_sort _ _ _ fun a b h1 h2 => by omega)
  · unfold dropL
    rw [List.mem_filter, accL_mem]
    constructor
    · rintro ⟨⟨j, h1, rfl⟩, h3⟩
      have h4 : ¬ (dotE (entN (fun _ => v) j) ∈ dotsL (accL (fun _ => v) (fun j => j) k) v) := by simpa using h3
      rw [sees_mem] at h4
      have : j = k := by
        rcases Nat.lt_or_ge j k with h5 | h5
        · exact absurd ⟨j, h5, rfl⟩ h4
        · omega
      subst this
      simp
    · intro hx
      obtain rfl : x = entN (fun _ => v) k := by simpa using hx
      refine ⟨⟨k, by omega, rfl⟩, ?_⟩
      have h4 : ¬ (dotE (entN (fun _ => v) k) ∈ dotsL (accL (fun _ => v) (fun j => j) k) v) := by
        rw [sees_mem]
        rintro ⟨j, h1, h2⟩
        have := dotN_inj h2
        omega
      simpa using h4
theorem sees_vals (v : ByteArray) (k : Nat) : setV (valsL [entN (fun _ => v) k]) = [v.data.toList] := by
  refine (setV_of (List.pairwise_singleton _ _) fun x => ?_).symm
  simp [valsL, entN]

/-! How many dots the values have. -/

theorem dots_some {L : List E3} {ws : List S8} (h : setV (valsL L) = ws) {i : Nat} {x : S8} (hx : ws[i]? = some x) : 0 < (dotsL L ⟨x.toArray⟩).length := by
  have hm : x ∈ valsL L := (setV_mem _ _).1 (h ▸ List.mem_of_getElem? hx)
  obtain ⟨y, hy, rfl⟩ := List.mem_map.1 hm
  have : dotE y ∈ dotsL L ⟨y.val.data.toList.toArray⟩ := by
    unfold dotsL
    refine List.mem_map.2 ⟨y, List.mem_filter.2 ⟨hy, (eqS_iff _ _).2 (by simp)⟩, rfl⟩
  exact List.length_pos_of_mem this

/-- The dots of the first i values. -/
def sumD (L : List E3) (ws : List S8) : Nat → Nat
  | 0 => 0
  | i + 1 => sumD L ws i + (dotsL L ⟨(ws.getD i []).toArray⟩).length
theorem sumD_at {L : List E3} {ws : List S8} (ha : Asc ws) : ∀ i, i ≤ ws.length → sumD L ws i = (L.filter fun x => decide (x.val.data.toList ∈ ws.take i)).length
  | 0, _ => by
    rw [List.filter_eq_nil_iff.2 (by simp)]
    rfl
  | i + 1, h => by
    rw [sumD, sumD_at ha i (by omega)]
    have hw : ws[i]? = some ws[i] := List.getElem?_eq_getElem (by omega)
    have hg : ws.getD i [] = ws[i] := by simp [List.getD, hw]
    rw [hg]
    unfold dotsL
    rw [List.length_map]
    have hn : ws[i] ∉ ws.take i := fun hm => by
      obtain ⟨j, hj, e⟩ := List.getElem_of_mem hm
      rw [List.length_take] at hj
      rw [List.getElem_take] at e
      have := List.pairwise_iff_getElem.1 ha j i (by omega) (by omega) (by omega)
      rw [e] at this
      exact s8_irr _ this
    generalize hz : ws[i] = z at *
    have hT : ws.take (i + 1) = ws.take i ++ [z] := by rw [List.take_add_one, hw]; rfl
    rw [hT]
    clear hw hg hT hz h
    generalize ws.take i = T at *
    have e3 : ∀ s : S8, decide (s ∈ T ++ [z]) = (decide (s ∈ T) || decide (s = z)) := fun s => by rw [← Bool.decide_or]; exact decide_eq_decide.2 (by simp)
    simp only [e3]
    clear e3
    induction L with
    | nil => rfl
    | cons y L ih =>
      rw [List.filter_cons, List.filter_cons, List.filter_cons]
      have e2 : eqS y.val ⟨z.toArray⟩ = decide (y.val.data.toList = z) := by
        by_cases e : y.val.data.toList = z
        · rw [decide_eq_true e, eqS_iff]
          exact bytes_eq (by simpa using e)
        · rw [decide_eq_false e]
          cases hq : eqS y.val ⟨z.toArray⟩ with
          | false => rfl
          | true => exact absurd (by rw [(eqS_iff _ _).1 hq]) e
      rw [e2]
      by_cases e : y.val.data.toList = z
      · have hy : y.val.data.toList ∉ T := by rw [e]; exact hn
        simp [e, hn]
        omega
      · by_cases hy : y.val.data.toList ∈ T
        · simp [e, hy]
          omega
        · simp [e, hy]
          omega
theorem sumD_all {L : List E3} {ws : List S8} (h : setV (valsL L) = ws) : sumD L ws ws.length = L.length := by
  rw [sumD_at (h ▸ setV_asc _) _ (Nat.le_refl _), List.take_length, List.filter_eq_self.2]
  intro x hx
  refine decide_eq_true (h ▸ (setV_mem _ _).2 (List.mem_map.2 ⟨x, hx, rfl⟩))
theorem sumD_step (L : List E3) {ws : List S8} {i : Nat} {x : S8} (hx : ws[i]? = some x) : sumD L ws (i + 1) = sumD L ws i + (dotsL L ⟨x.toArray⟩).length := by
  rw [sumD]
  simp [List.getD, hx]

theorem dots_none {L : List E3} {v : ByteArray} (h : ∀ x ∈ L, x.val.size < v.size) : dotsL L v = [] := by
  unfold dotsL
  rw [List.map_eq_nil_iff, List.filter_eq_nil_iff]
  intro x hx e
  have := h x hx
  rw [(eqS_iff _ _).1 e] at this
  omega

theorem sumD_le {L : List E3} {ws : List S8} (h : setV (valsL L) = ws) {i : Nat} (hi : i ≤ ws.length) : sumD L ws i ≤ L.length := by
  rw [sumD_at (h ▸ setV_asc _) _ hi]
  exact List.length_filter_le _ _

end Go.Proofs.Ytedgobdeoheaoaa
