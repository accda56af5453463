/-
  Lists of elements: where one goes, what is gone, what stands: plain mathematics of layer 10.
-/
import Derived.Test.YtghlegidapmpmaaCe
import Derived.Test.YtghlegidapmpmaaDot
import Derived.Test.YtghlegidapmpmaaOrder9
namespace Go.Proofs.Ytghlegidapmpmaa
open Go.RowKit
set_option linter.unusedVariables false
set_option linter.unusedSimpArgs false

/-- An element's dot. -/
abbrev dotX (x : L5) : D2 := (x.node, x.seq)
/-- The place of the first element of that dot. -/
def atD : List L5 → D2 → Option Nat
  | [], _ => none
  | x :: l, d => if dotX x = d then some 0 else (atD l d).map (· + 1)
/-- Has an element that dot? -/
def hasX (l : List L5) (d : D2) : Bool := l.any fun x => decide (dotX x = d)
/-- How many, one behind the other, have a stamp that (t, n) is less than. -/
def pastL (t n : Int) : List L5 → Nat
  | [] => 0
  | x :: l => if lessB t n x.time x.node = true then pastL t n l + 1 else 0
/-- Right behind that dot's; the first place of the zero dot. -/
def behindL (l : List L5) (d : D2) : Option Nat := if d = (0, 0) then some 0 else (atD l d).map (· + 1)
/-- e put at place k. -/
def putX (l : List L5) (k : Nat) (e : L5) : List L5 := l.take k ++ e :: l.drop k
/-- e put behind d's. -/
def insL (l : List L5) (e : L5) (d : D2) : Option (List L5) := (behindL l d).map fun k => putX l (k + pastL e.time e.node (l.drop k)) e
/-- May it be put? -/
def okX (l : List L5) (e : L5) : Bool := mayB e.node e.seq 16 && (decide (1 ≤ e.time ∧ e.time ≤ 16777215) && (decide (e.val.size ≤ 256) && (!e.gone && !hasX l (dotX e))))
/-- Gone. -/
def markX (x : L5) : L5 := ⟨x.node, x.seq, x.time, ByteArray.empty, true⟩
/-- The element of that dot is gone. -/
def eraL (l : List L5) (d : D2) : Option (List L5) := (atD l d).map fun k => l.modify k markX
/-- Those that are not gone. -/
def liveL (l : List L5) : List L5 := l.filter fun x => !x.gone
def valsX (l : List L5) : List ByteArray := (liveL l).map (·.val)
def atX (l : List L5) (k : Nat) : Option D2 := (liveL l)[k]?.map dotX

/-! What holds of all of them. -/

theorem atD_iff {l : List L5} {d : D2} : (atD l d).isSome = hasX l d := by
  induction l with
  | nil => rfl
  | cons x l ih =>
    rw [show atD (x :: l) d = if dotX x = d then some 0 else (atD l d).map (· + 1) from rfl, show hasX (x :: l) d = (decide (dotX x = d) || hasX l d) from rfl]
    by_cases h : dotX x = d
    · rw [if_pos h, decide_eq_true h]; rfl
    · rw [if_neg h, decide_eq_false h, ← ih]; simp
theorem hasX_iff {l : List L5} {d : D2} : hasX l d = true ↔ ∃ x ∈ l, dotX x = d := by
  unfold hasX
  rw [List.any_eq_true]
  simp
theorem hasX_no {l : List L5} {d : D2} (h : ∀ x ∈ l, dotX x ≠ d) : hasX l d = false := by
  cases e : hasX l d with
  | false => rfl
  | true =>
    obtain ⟨x, hx, h2⟩ := hasX_iff.1 e
    exact absurd h2 (h x hx)
theorem atD_lt {l : List L5} {d : D2} {k : Nat} (h : atD l d = some k) : k < l.length := by
  induction l generalizing k with
  | nil => simp [atD] at h
  | cons x l ih =>
    unfold atD at h
    split at h
    · simp at h; subst h; simp
    · obtain ⟨j, hj, rfl⟩ := Option.map_eq_some_iff.1 h
      have := ih hj
      simp
      omega
theorem behind_le {l : List L5} {d : D2} {k : Nat} (h : behindL l d = some k) : k ≤ l.length := by
  unfold behindL at h
  split at h
  · simp at h; omega
  · obtain ⟨j, hj, rfl⟩ := Option.map_eq_some_iff.1 h
    exact atD_lt hj
theorem past_le (t n : Int) (l : List L5) : pastL t n l ≤ l.length := by
  induction l with
  | nil => simp [pastL]
  | cons x l ih =>
    unfold pastL
    split <;> simp
    omega
theorem putX_len {l : List L5} {k : Nat} (e : L5) (h : k ≤ l.length) : (putX l k e).length = l.length + 1 := by
  unfold putX
  simp
  omega
theorem insK_le {l : List L5} {d : D2} {k : Nat} {t n : Int} (h : behindL l d = some k) : k + pastL t n (l.drop k) ≤ l.length := by
  have h1 := behind_le h
  have h2 := past_le t n (l.drop k)
  rw [List.length_drop] at h2
  omega
theorem insL_len {l m : List L5} {e : L5} {d : D2} (h : insL l e d = some m) : m.length = l.length + 1 := by
  obtain ⟨k, hk, rfl⟩ := Option.map_eq_some_iff.1 h
  exact putX_len e (insK_le hk)
theorem putX_mem {l : List L5} {k : Nat} {e x : L5} : x ∈ putX l k e ↔ x ∈ l ∨ x = e := by
  unfold putX
  constructor
  · intro h
    rcases List.mem_append.1 h with h | h
    · exact Or.inl (List.mem_of_mem_take h)
    · rcases List.mem_cons.1 h with h | h
      · exact Or.inr h
      · exact Or.inl (List.mem_of_mem_drop h)
  · intro h
    rcases h with h | h
    · rw [← List.take_append_drop k l] at h
      rcases List.mem_append.1 h with h | h
      · exact List.mem_append.2 (Or.inl h)
      · exact List.mem_append.2 (Or.inr (List.mem_cons_of_mem _ h))
    · exact List.mem_append.2 (Or.inr (by rw [h]; simp))
theorem insL_mem {l m : List L5} {e x : L5} {d : D2} (h : insL l e d = some m) : x ∈ m ↔ x ∈ l ∨ x = e := by
  obtain ⟨k, hk, rfl⟩ := Option.map_eq_some_iff.1 h
  exact putX_mem

/-- Each dot once. -/
def OnceX (l : List L5) : Prop := l.Pairwise fun x y => dotX x ≠ dotX y
theorem once_put {l : List L5} {k : Nat} {e : L5} (h : OnceX l) (he : hasX l (dotX e) = false) : OnceX (putX l k e) := by
  have hne : ∀ x ∈ l, dotX x ≠ dotX e := fun x hx h2 => by rw [hasX_iff.2 ⟨x, hx, h2⟩] at he; simp at he
  unfold OnceX putX
  have h0 := h
  unfold OnceX at h0
  rw [← List.take_append_drop k l, List.pairwise_append] at h0
  rw [List.pairwise_append]
  refine ⟨h0.1, List.pairwise_cons.2 ⟨fun x hx => (hne x (List.mem_of_mem_drop hx)).symm, h0.2.1⟩, fun x hx y hy => ?_⟩
  rcases List.mem_cons.1 hy with rfl | hy
  · exact hne x (List.mem_of_mem_take hx)
  · exact h0.2.2 x hx y hy
theorem once_ins {l m : List L5} {e : L5} {d : D2} (h : insL l e d = some m) (hl : OnceX l) (he : hasX l (dotX e) = false) : OnceX m := by
  obtain ⟨k, hk, rfl⟩ := Option.map_eq_some_iff.1 h
  exact once_put hl he
theorem mem_mark {l : List L5} {k : Nat} {x : L5} (h : x ∈ l.modify k markX) : x ∈ l ∨ ∃ y ∈ l, x = markX y := by
  obtain ⟨i, hi⟩ := List.getElem?_of_mem h
  rw [List.getElem?_modify] at hi
  cases e : l[i]? with
  | none => rw [e] at hi; simp at hi
  | some y =>
    rw [e] at hi
    have hy := List.mem_of_getElem? e
    by_cases hk : k = i
    · simp [hk] at hi
      exact Or.inr ⟨y, hy, hi.symm⟩
    · simp [hk] at hi
      exact Or.inl (hi ▸ hy)
theorem dots_mark (l : List L5) (k : Nat) : (l.modify k markX).map dotX = l.map dotX := by
  apply List.ext_getElem?
  intro i
  rw [List.getElem?_map, List.getElem?_map, List.getElem?_modify]
  cases l[i]? with
  | none => rfl
  | some y => by_cases h : k = i <;> simp [h, markX]
theorem once_dots {l : List L5} : OnceX l ↔ (l.map dotX).Pairwise (· ≠ ·) := by
  unfold OnceX
  rw [List.pairwise_map]
theorem once_mark {l : List L5} {k : Nat} (h : OnceX l) : OnceX (l.modify k markX) := by rw [once_dots, dots_mark, ← once_dots]; exact h
theorem once_live {l : List L5} (h : OnceX l) : OnceX (liveL l) := List.Pairwise.sublist List.filter_sublist h

/-- Where one stands whose dot is its own. -/
theorem atD_split {A B : List L5} {x : L5} (h : OnceX (A ++ x :: B)) : atD (A ++ x :: B) (dotX x) = some A.length := by
  induction A with
  | nil => simp [atD]
  | cons a A ih =>
    obtain ⟨h1, h2⟩ := List.pairwise_cons.1 h
    have hne : dotX a ≠ dotX x := h1 x (by simp)
    show (if dotX a = dotX x then some 0 else (atD (A ++ x :: B) (dotX x)).map (· + 1)) = _
    rw [if_neg hne, ih h2]
    rfl
/-- The k-th of those that are not gone. -/
theorem live_split : ∀ {l : List L5} {k : Nat} {x : L5}, (liveL l)[k]? = some x → ∃ A B, l = A ++ x :: B ∧ (liveL A).length = k ∧ x.gone = false
  | [], k, x, h => by simp [liveL] at h
  | a :: l, k, x, h => by
    unfold liveL at h
    rw [List.filter_cons] at h
    cases hg : a.gone with
    | true =>
      simp [hg] at h
      obtain ⟨A, B, h1, h2, h3⟩ := live_split (l := l) (k := k) (x := x) h
      exact ⟨a :: A, B, by rw [h1]; rfl, by simp [liveL, hg]; exact h2, h3⟩
    | false =>
      simp [hg] at h
      cases k with
      | zero =>
        simp at h
        subst h
        exact ⟨[], l, rfl, rfl, hg⟩
      | succ k =>
        obtain ⟨A, B, h1, h2, h3⟩ := live_split (l := l) (k := k) (x := x) (by rw [List.getElem?_cons_succ] at h; exact h)
        exact ⟨a :: A, B, by rw [h1]; rfl, by
          have : liveL (a :: A) = a :: liveL A := by simp [liveL, hg]
          rw [this]
          simp [h2], h3⟩
theorem live_append (A B : List L5) : liveL (A ++ B) = liveL A ++ liveL B := by simp [liveL]
theorem live_cons {x : L5} (h : x.gone = false) (B : List L5) : liveL (x :: B) = x :: liveL B := by simp [liveL, h]
theorem live_gone {x : L5} (h : x.gone = true) (B : List L5) : liveL (x :: B) = liveL B := by simp [liveL, h]
theorem putX_split (A B : List L5) (e : L5) : putX (A ++ B) A.length e = A ++ e :: B := by simp [putX]

/-- Right behind the k-th that stands. -/
theorem behind_split {A B : List L5} {x : L5} (h : OnceX (A ++ x :: B)) (hz : dotX x ≠ (0, 0)) : behindL (A ++ x :: B) (dotX x) = some (A.length + 1) := by
  unfold behindL
  rw [if_neg hz, atD_split h]
  rfl
theorem past_none {t n : Int} {l : List L5} (h : ∀ x ∈ l, lessB t n x.time x.node = false) : pastL t n l = 0 := by
  cases l with
  | nil => rfl
  | cons x l => unfold pastL; rw [if_neg (by rw [h x (by simp)]; simp)]

/-! One that writes alone: its times grow. -/

theorem ins_last {l : List L5} {e : L5} (hm : ∀ x ∈ l, x.time < e.time) (d : D2) : insL l e d = (behindL l d).map fun k => putX l k e := by
  unfold insL
  congr
  funext k
  rw [past_none fun x hx => ?_]
  · rfl
  · have := hm x (List.mem_of_mem_drop hx)
    unfold lessB
    simp
    omega
theorem ins_first {l : List L5} {e : L5} (hm : ∀ x ∈ l, x.time < e.time) : insL l e (0, 0) = some (e :: l) := by
  rw [ins_last hm]
  simp [behindL, putX]
/-- Behind the k-th that stands: what stands then. -/
theorem ins_serial {l : List L5} {e x : L5} {k : Nat} (h : OnceX l) (hx : (liveL l)[k]? = some x) (hz : dotX x ≠ (0, 0)) (hm : ∀ x ∈ l, x.time < e.time) (he : e.gone = false) :
    ∃ m, insL l e (dotX x) = some m ∧ liveL m = (liveL l).take (k + 1) ++ e :: (liveL l).drop (k + 1) := by
  obtain ⟨A, B, rfl, hk, hg⟩ := live_split hx
  refine ⟨_, by rw [ins_last hm, behind_split h hz]; rfl, ?_⟩
  have e1 : A ++ x :: B = (A ++ [x]) ++ B := by simp
  have e2 : A.length + 1 = (A ++ [x]).length := by simp
  show liveL (putX (A ++ x :: B) (A.length + 1) e) = _
  rw [e1, e2, putX_split]
  rw [live_append, live_cons he, live_append (A ++ [x]) B]
  have e3 : (liveL (A ++ [x])).length = k + 1 := by rw [live_append, live_cons hg]; simp [liveL, ← hk]
  rw [← e3, List.take_left, List.drop_left]
theorem ins_serial0 {l : List L5} {e : L5} (hm : ∀ x ∈ l, x.time < e.time) (he : e.gone = false) : ∃ m, insL l e (0, 0) = some m ∧ liveL m = e :: liveL l :=
  ⟨_, ins_first hm, live_cons he l⟩
theorem modify_split (A B : List L5) (x : L5) : (A ++ x :: B).modify A.length markX = A ++ markX x :: B := by
  apply List.ext_getElem?
  intro i
  rw [List.getElem?_modify]
  rcases Nat.lt_trichotomy i A.length with h | h | h
  · rw [List.getElem?_append_left h, List.getElem?_append_left h]
    have : A.length ≠ i := by omega
    simp [this]
  · subst h
    simp
  · have h1 : A.length ≤ i := by omega
    rw [List.getElem?_append_right h1, List.getElem?_append_right h1]
    have h2 : A.length ≠ i := by omega
    obtain ⟨j, hj⟩ : ∃ j, i - A.length = j + 1 := ⟨i - A.length - 1, by omega⟩
    rw [hj]
    simp [h2]
/-- The k-th that stands is erased. -/
theorem era_serial {l : List L5} {x : L5} {k : Nat} (h : OnceX l) (hx : (liveL l)[k]? = some x) :
    ∃ m, eraL l (dotX x) = some m ∧ liveL m = (liveL l).take k ++ (liveL l).drop (k + 1) := by
  obtain ⟨A, B, rfl, hk, hg⟩ := live_split hx
  refine ⟨_, by unfold eraL; rw [atD_split h]; rfl, ?_⟩
  show liveL ((A ++ x :: B).modify A.length markX) = _
  rw [modify_split, live_append, live_gone rfl, live_append, live_cons hg, ← hk, List.take_left]
  congr 1
  rw [List.drop_append]
  simp
theorem live_live (l : List L5) : liveL (liveL l) = liveL l := by simp [liveL]
theorem live_le (l : List L5) : (liveL l).length ≤ l.length := List.length_filter_le _ _

/-! Marks: what is new stands behind nothing that is gone. -/

/-- Nothing new right behind what is gone; g: is what stands ahead gone? -/
def OldL : Bool → List L5 → Prop
  | _, [] => True
  | g, y :: l => (g = true → y.time < 30) ∧ OldL y.gone l
/-- Is the last one gone? -/
def lastG : Bool → List L5 → Bool
  | g, [] => g
  | _, y :: l => lastG y.gone l
theorem old_append : ∀ (g : Bool) (A C : List L5), OldL g (A ++ C) ↔ OldL g A ∧ OldL (lastG g A) C
  | g, [], C => by simp [OldL, lastG]
  | g, y :: A, C => by
    show (g = true → y.time < 30) ∧ OldL y.gone (A ++ C) ↔ ((g = true → y.time < 30) ∧ OldL y.gone A) ∧ OldL (lastG y.gone A) C
    rw [old_append y.gone A C, and_assoc]
theorem last_append : ∀ (g : Bool) (A C : List L5), lastG g (A ++ C) = lastG (lastG g A) C
  | g, [], C => rfl
  | g, y :: A, C => last_append y.gone A C
theorem last_live : ∀ {P : List L5}, (∀ y ∈ P, y.gone = false) → lastG false P = false
  | [], _ => rfl
  | y :: P, h => by
    show lastG y.gone P = false
    rw [h y (by simp)]
    exact last_live fun z hz => h z (by simp [hz])
theorem old_all : ∀ {g : Bool} {l : List L5}, (∀ x ∈ l, x.time < 30) → OldL g l
  | _, [], _ => trivial
  | _, y :: l, h => ⟨fun _ => h y (by simp), old_all fun z hz => h z (by simp [hz])⟩

theorem past_gone {t n : Int} (ht : 30 ≤ t) : ∀ {B : List L5}, OldL true B → pastL t n (liveL B) = 0
  | [], _ => rfl
  | y :: B, h => by
    have hy : y.time < 30 := h.1 rfl
    cases hg : y.gone with
    | true =>
      rw [live_gone hg]
      exact past_gone ht (by have := h.2; rw [hg] at this; exact this)
    | false =>
      rw [live_cons hg]
      unfold pastL
      rw [if_neg]
      unfold lessB
      simp
      omega
/-- What is passed is not gone, and of those that are not gone the same are passed. -/
theorem past_chain {t n : Int} (ht : 30 ≤ t) : ∀ {B : List L5}, OldL false B → (∀ y ∈ B, y.gone = true → y.time < 30) → ∃ P R, B = P ++ R ∧ (∀ y ∈ P, y.gone = false) ∧ pastL t n B = P.length ∧ pastL t n (liveL B) = P.length
  | [], _, _ => ⟨[], [], rfl, by simp, rfl, rfl⟩
  | y :: B, h, hg => by
    by_cases hl : lessB t n y.time y.node = true
    · have hy : y.gone = false := by
        cases e : y.gone with
        | false => rfl
        | true =>
          have := hg y (by simp) e
          unfold lessB at hl
          simp at hl
          omega
      obtain ⟨P, R, h1, h2, h3, h4⟩ := past_chain ht (B := B) (by have := h.2; rw [hy] at this; exact this) fun z hz => hg z (by simp [hz])
      refine ⟨y :: P, R, by rw [h1]; rfl, fun z hz => ?_, ?_, ?_⟩
      · rcases List.mem_cons.1 hz with rfl | hz
        · exact hy
        · exact h2 z hz
      · rw [pastL, if_pos hl, h3]; rfl
      · rw [live_cons hy, pastL, if_pos hl, h4]; rfl
    · refine ⟨[], y :: B, rfl, by simp, by rw [pastL, if_neg hl]; rfl, ?_⟩
      cases hy : y.gone with
      | false => rw [live_cons hy, pastL, if_neg hl]; rfl
      | true =>
        rw [live_gone hy]
        exact past_gone ht (by have := h.2; rw [hy] at this; exact this)

theorem live_all {P : List L5} (h : ∀ y ∈ P, y.gone = false) : liveL P = P := by
  unfold liveL
  rw [List.filter_eq_self]
  intro y hy
  simp [h y hy]
theorem putX_three (A P R : List L5) (e : L5) : putX (A ++ (P ++ R)) (A.length + P.length) e = A ++ (P ++ e :: R) := by
  have := putX_split (A ++ P) R e
  simpa using this

/-- What the second loop keeps: with the marks and without. -/
structure Marks (l : List L5) : Prop where
  once : OnceX l
  old : OldL false l
  gone : ∀ y ∈ l, y.gone = true → y.time < 30
  zero : ∀ y ∈ l, dotX y ≠ (0, 0)

theorem marks_end {l A B : List L5} {z : L5} (H : Marks l) (hl : l = A ++ B) (hA : lastG false A = false) (hz : z.gone = false) (ht : 30 ≤ z.time) (hn : hasX l (dotX z) = false) (hz0 : dotX z ≠ (0, 0)) :
    ∃ m, putX l (A.length + pastL z.time z.node B) z = m ∧ putX (liveL l) ((liveL A).length + pastL z.time z.node (liveL B)) z = liveL m ∧ Marks m := by
  subst hl
  have ho := (old_append false A B).1 H.old
  rw [hA] at ho
  obtain ⟨P, R, rfl, h2, h3, h4⟩ := past_chain (n := z.node) ht ho.2 fun y hy => H.gone y (by simp [hy])
  have ho2 := (old_append false P R).1 ho.2
  rw [last_live h2] at ho2
  refine ⟨_, rfl, ?_, ?_, ?_, ?_, ?_⟩
  · rw [h3, h4, putX_three, live_append, live_append P R, live_all h2, putX_three, live_append, live_append P, live_cons hz, live_all h2]
  · exact once_put H.once hn
  · rw [h3, putX_three, old_append, hA, old_append, last_live h2]
    exact ⟨ho.1, ho2.1, fun h => by simp at h, by rw [hz]; exact ho2.2⟩
  · intro y hy hg
    rcases putX_mem.1 hy with hy | rfl
    · exact H.gone y hy hg
    · rw [hz] at hg; simp at hg
  · intro y hy
    rcases putX_mem.1 hy with hy | rfl
    · exact H.zero y hy
    · exact hz0
theorem last_cons {A : List L5} {x : L5} (h : x.gone = false) : lastG false (A ++ [x]) = false := by
  rw [last_append]
  exact h
/-- A new one at the begin. -/
theorem marks_first {l : List L5} {z : L5} (H : Marks l) (hz : z.gone = false) (ht : 30 ≤ z.time) (hn : hasX l (dotX z) = false) (hz0 : dotX z ≠ (0, 0)) : ∃ m, insL l z (0, 0) = some m ∧ insL (liveL l) z (0, 0) = some (liveL m) ∧ Marks m := by
  obtain ⟨m, h1, h2, h3⟩ := marks_end (A := []) (B := l) H rfl rfl hz ht hn hz0
  have h1' : putX l (0 + pastL z.time z.node l) z = m := h1
  have h2' : putX (liveL l) (0 + pastL z.time z.node (liveL l)) z = liveL m := h2
  exact ⟨m, by rw [← h1']; rfl, by rw [← h2']; rfl, h3⟩
/-- A new one behind the k-th that stands. -/
theorem marks_behind {l : List L5} {z x : L5} {k : Nat} (H : Marks l) (hx : (liveL l)[k]? = some x) (hz : z.gone = false) (ht : 30 ≤ z.time) (hn : hasX l (dotX z) = false) (hz0 : dotX z ≠ (0, 0)) : ∃ m, insL l z (dotX x) = some m ∧ insL (liveL l) z (dotX x) = some (liveL m) ∧ Marks m := by
  obtain ⟨A, B, rfl, hk, hg⟩ := live_split hx
  have hx0 : dotX x ≠ (0, 0) := H.zero x (by simp)
  obtain ⟨m, h1, h2, h3⟩ := marks_end (A := A ++ [x]) (B := B) H (by simp) (last_cons hg) hz ht hn hz0
  have hlive : liveL (A ++ x :: B) = liveL A ++ x :: liveL B := by rw [live_append, live_cons hg]
  have ho : OnceX (liveL A ++ x :: liveL B) := hlive ▸ once_live H.once
  have e1 : (A ++ x :: B).drop (A.length + 1) = B := by
    have : A ++ x :: B = (A ++ [x]) ++ B := by simp
    rw [this, show A.length + 1 = (A ++ [x]).length by simp, List.drop_left]
  have e2 : (liveL A ++ x :: liveL B).drop ((liveL A).length + 1) = liveL B := by
    have : liveL A ++ x :: liveL B = (liveL A ++ [x]) ++ liveL B := by simp
    rw [this, show (liveL A).length + 1 = (liveL A ++ [x]).length by simp, List.drop_left]
  refine ⟨m, ?_, ?_, h3⟩
  · unfold insL
    rw [behind_split H.once hx0]
    show some (putX (A ++ x :: B) (A.length + 1 + pastL z.time z.node ((A ++ x :: B).drop (A.length + 1))) z) = _
    rw [e1, ← h1]
    simp
  · rw [hlive]
    unfold insL
    rw [behind_split ho hx0]
    show some (putX (liveL A ++ x :: liveL B) ((liveL A).length + 1 + pastL z.time z.node ((liveL A ++ x :: liveL B).drop ((liveL A).length + 1))) z) = _
    rw [e2, ← h2, hlive, live_append, live_cons hg]
    simp [liveL]

/-! The first loop of marks: elements of node 0, times as their numbers. -/

/-- What the first loop keeps. -/
structure First (i : Nat) (l : List L5) : Prop where
  once : OnceX l
  mem : ∀ x ∈ l, x.node = 0 ∧ x.time = x.seq ∧ 1 ≤ x.seq ∧ x.seq ≤ i
  all : ∀ s : Nat, 1 ≤ s → s ≤ i → hasX l (0, (s : Int)) = true
  len : l.length = i
theorem first_nil : First 0 [] := ⟨List.Pairwise.nil, by simp, fun s h1 h2 => by omega, rfl⟩
theorem hasX_mark {l : List L5} {k : Nat} {d : D2} : hasX (l.modify k markX) d = hasX l d := by
  have h : ∀ l : List L5, hasX l d = (l.map dotX).any fun x => decide (x = d) := fun l => by
    unfold hasX
    rw [List.any_map]
    rfl
  rw [h, h, dots_mark]
theorem first_mark {i k : Nat} {l : List L5} (H : First i l) : First i (l.modify k markX) := by
  refine ⟨once_mark H.once, fun x hx => ?_, fun s h1 h2 => by rw [hasX_mark]; exact H.all s h1 h2, by rw [List.length_modify]; exact H.len⟩
  rcases mem_mark hx with hx | ⟨y, hy, rfl⟩
  · exact H.mem x hx
  · exact H.mem y hy
theorem first_new {i : Nat} {l : List L5} (H : First i l) : hasX l (0, ((i + 1 : Nat) : Int)) = false := by
  refine hasX_no fun x hx h => ?_
  have h1 := (H.mem x hx).2.2.2
  have h2 : x.seq = ((i + 1 : Nat) : Int) := congrArg Prod.snd h
  omega
theorem first_ins {i : Nat} {l : List L5} {v : ByteArray} (H : First i l) {r : Nat} (hr : r ≤ i) :
    ∃ m, insL l ⟨0, ((i + 1 : Nat) : Int), ((i + 1 : Nat) : Int), v, false⟩ (0, (r : Int)) = some m ∧ First (i + 1) m := by
  obtain ⟨k, hk⟩ : ∃ k, behindL l (0, (r : Int)) = some k := by
    unfold behindL
    by_cases h0 : r = 0
    · subst h0
      exact ⟨0, by simp⟩
    · rw [if_neg (by simp; omega)]
      have := H.all r (by omega) hr
      rw [← atD_iff] at this
      obtain ⟨j, hj⟩ := Option.isSome_iff_exists.1 this
      exact ⟨j + 1, by rw [hj]; rfl⟩
  obtain ⟨m, hi⟩ : ∃ m, insL l ⟨0, ((i + 1 : Nat) : Int), ((i + 1 : Nat) : Int), v, false⟩ (0, (r : Int)) = some m := ⟨_, by unfold insL; rw [hk]; rfl⟩
  refine ⟨m, hi, once_ins hi H.once (first_new H), fun x hx => ?_, fun s h1 h2 => ?_, by rw [insL_len hi, H.len]⟩
  · rcases (insL_mem hi).1 hx with hx | rfl
    · have := H.mem x hx
      exact ⟨this.1, this.2.1, this.2.2.1, by have := this.2.2.2; omega⟩
    · exact ⟨rfl, rfl, by show (1 : Int) ≤ ((i + 1 : Nat) : Int); omega, by show ((i + 1 : Nat) : Int) ≤ ((i + 1 : Nat) : Int); omega⟩
  · by_cases h : s = i + 1
    · subst h
      exact hasX_iff.2 ⟨_, (insL_mem hi).2 (Or.inr rfl), rfl⟩
    · obtain ⟨x, hx, h3⟩ := hasX_iff.1 (H.all s h1 (by omega))
      exact hasX_iff.2 ⟨x, (insL_mem hi).2 (Or.inl hx), h3⟩
theorem first_marks {i : Nat} {l : List L5} (H : First i l) (hi : i ≤ 20) : Marks l :=
  ⟨H.once, old_all fun x hx => by have := H.mem x hx; omega, fun y hy _ => by have := H.mem y hy; omega, fun y hy h => by
    have := H.mem y hy
    have h2 : y.seq = 0 := congrArg Prod.snd h
    omega⟩
/-- Erasing at the zero dot: there is none. -/
theorem first_zero {i : Nat} {l : List L5} (H : First i l) : eraL l (0, 0) = none := by
  have : hasX l (0, 0) = false := hasX_no fun x hx h => by
    have := (H.mem x hx).2.2.1
    have h2 : x.seq = 0 := congrArg Prod.snd h
    omega
  rw [← atD_iff] at this
  unfold eraL
  rw [Option.isSome_eq_false_iff, Option.isNone_iff_eq_none] at this
  rw [this]
  rfl
theorem first_era {i r : Nat} {l : List L5} (H : First i l) (h1 : 1 ≤ r) (hr : r ≤ i) : ∃ m, eraL l (0, (r : Int)) = some m ∧ First i m := by
  have := H.all r h1 hr
  rw [← atD_iff] at this
  obtain ⟨j, hj⟩ := Option.isSome_iff_exists.1 this
  exact ⟨_, by unfold eraL; rw [hj]; rfl, first_mark H⟩

/-! Many at the begin, at one time. -/

/-- Those of ns, by f. -/
def ofN (f : Nat → ByteArray) (n : Nat) : L5 := ⟨(n : Int), 1, 1, f n, false⟩
def DescN (ns : List Nat) : Prop := ns.Pairwise (· > ·)
/-- n put among them. -/
def insN (n : Nat) : List Nat → List Nat
  | [] => [n]
  | m :: ns => if n < m then m :: insN n ns else n :: m :: ns
theorem insN_mem {n x : Nat} : ∀ {ns : List Nat}, x ∈ insN n ns ↔ x ∈ ns ∨ x = n
  | [] => by simp [insN]
  | m :: ns => by
    unfold insN
    split
    · rw [List.mem_cons, insN_mem, List.mem_cons, or_assoc]
    · rw [List.mem_cons]
      exact Or.comm
theorem insN_desc {n : Nat} : ∀ {ns : List Nat}, DescN ns → n ∉ ns → DescN (insN n ns)
  | [], _, _ => List.pairwise_singleton _ _
  | m :: ns, h, hn => by
    obtain ⟨h1, h2⟩ := List.pairwise_cons.1 h
    unfold insN
    split
    · rename_i hlt
      refine List.pairwise_cons.2 ⟨fun x hx => ?_, insN_desc h2 fun hx => hn (by simp [hx])⟩
      rcases insN_mem.1 hx with hx | rfl
      · exact h1 x hx
      · exact hlt
    · rename_i hlt
      have hne : n ≠ m := fun e => hn (by simp [e])
      refine List.pairwise_cons.2 ⟨fun x hx => ?_, h⟩
      rcases List.mem_cons.1 hx with rfl | hx
      · show n > x; omega
      · have := h1 x hx
        show n > x
        omega
theorem insN_len (n : Nat) (ns : List Nat) : (insN n ns).length = ns.length + 1 := by
  induction ns with
  | nil => rfl
  | cons m ns ih =>
    unfold insN
    split <;> simp [ih]
theorem ins_many (f : Nat → ByteArray) (n : Nat) (ns : List Nat) : insL (ns.map (ofN f)) (ofN f n) (0, 0) = some ((insN n ns).map (ofN f)) := by
  unfold insL
  rw [show behindL (ns.map (ofN f)) (0, 0) = some 0 by simp [behindL]]
  show some (putX (ns.map (ofN f)) (0 + pastL 1 (n : Int) ((ns.map (ofN f)).drop 0)) (ofN f n)) = _
  congr 1
  rw [Nat.zero_add, List.drop_zero]
  induction ns with
  | nil => rfl
  | cons m ns ih =>
    rw [List.map_cons]
    unfold pastL insN
    by_cases h : n < m
    · rw [if_pos h, if_pos (by unfold lessB ofN; simp; exact h), List.map_cons, ← ih]
      rfl
    · rw [if_neg h, if_neg (by unfold lessB ofN; simp; omega)]
      rfl
theorem desc_one : ∀ {a b : List Nat}, DescN a → DescN b → (∀ x, x ∈ a ↔ x ∈ b) → a = b
  | [], [], _, _, _ => rfl
  | [], y :: m, _, _, h => by have := (h y).2 (by simp); simp at this
  | x :: l, [], _, _, h => by have := (h x).1 (by simp); simp at this
  | x :: l, y :: m, hl, hm, h => by
    obtain ⟨hl1, hl2⟩ := List.pairwise_cons.1 hl
    obtain ⟨hm1, hm2⟩ := List.pairwise_cons.1 hm
    have e : x = y := by
      rcases List.mem_cons.1 ((h x).1 (by simp)) with h1 | h1
      · exact h1
      · rcases List.mem_cons.1 ((h y).2 (by simp)) with h2 | h2
        · exact h2.symm
        · have := hl1 y h2
          have := hm1 x h1
          omega
    subst e
    rw [desc_one hl2 hm2 fun z => ⟨fun hz => ?_, fun hz => ?_⟩]
    · rcases List.mem_cons.1 ((h z).1 (List.mem_cons_of_mem _ hz)) with h1 | h1
      · have := hl1 z hz
        omega
      · exact h1
    · rcases List.mem_cons.1 ((h z).2 (List.mem_cons_of_mem _ hz)) with h1 | h1
      · have := hm1 z hz
        omega
      · exact h1
/-- From the greatest down. -/
def downN : Nat → List Nat
  | 0 => []
  | k + 1 => k :: downN k
theorem downN_mem (k x : Nat) : x ∈ downN k ↔ x < k := by
  induction k with
  | zero => simp [downN]
  | succ k ih => rw [downN, List.mem_cons, ih]; omega
theorem downN_desc (k : Nat) : DescN (downN k) := by
  induction k with
  | zero => exact List.Pairwise.nil
  | succ k ih => exact List.pairwise_cons.2 ⟨fun x hx => (downN_mem k x).1 hx, ih⟩
theorem downN_at (k i : Nat) (h : i < k) : (downN k)[i]? = some (k - 1 - i) := by
  induction k generalizing i with
  | zero => omega
  | succ k ih =>
    cases i with
    | zero => simp [downN]
    | succ i =>
      rw [downN, List.getElem?_cons_succ, ih i (by omega)]
      congr 1
      omega
theorem downN_len (k : Nat) : (downN k).length = k := by
  induction k with
  | zero => rfl
  | succ k ih => simp [downN, ih]

/-- What is left, and what is put. -/
structure Many (k : Nat) (left ns : List Nat) : Prop where
  desc : DescN ns
  once : left.Pairwise (· ≠ ·)
  part : ∀ x, x < k ↔ (x ∈ ns ∨ x ∈ left)
  apart : ∀ x, x ∈ ns → x ∉ left
theorem many_start (k : Nat) : Many k (List.range k) [] := ⟨List.Pairwise.nil, List.nodup_range, fun x => by simp, fun x hx => by simp at hx⟩
theorem many_step {k a x : Nat} {left ns : List Nat} (H : Many k left ns) (hx : left[a]? = some x) : x < k ∧ x ∉ ns ∧ Many k (left.take a ++ left.drop (a + 1)) (insN x ns) := by
  have hm := List.mem_of_getElem? hx
  have hn : x ∉ ns := fun h => H.apart x h hm
  have ha := (List.getElem?_eq_some_iff.1 hx).1
  have hs : left = left.take a ++ x :: left.drop (a + 1) := by
    have e : left.drop a = x :: left.drop (a + 1) := by
      rw [List.drop_eq_getElem_cons ha, (List.getElem?_eq_some_iff.1 hx).2]
    rw [← e, List.take_append_drop]
  have ho := H.once
  rw [hs, List.pairwise_append] at ho
  obtain ⟨o1, o2, o3⟩ := ho
  obtain ⟨o4, o5⟩ := List.pairwise_cons.1 o2
  have hmem : ∀ y, y ∈ left ↔ y ∈ left.take a ++ left.drop (a + 1) ∨ y = x := fun y => by
    constructor
    · intro h
      rw [hs] at h
      rcases List.mem_append.1 h with h | h
      · exact Or.inl (List.mem_append.2 (Or.inl h))
      · rcases List.mem_cons.1 h with h | h
        · exact Or.inr h
        · exact Or.inl (List.mem_append.2 (Or.inr h))
    · rintro (h | rfl)
      · rcases List.mem_append.1 h with h | h
        · exact List.mem_of_mem_take h
        · exact List.mem_of_mem_drop h
      · exact hm
  have hno : x ∉ left.take a ++ left.drop (a + 1) := fun h => by
    rcases List.mem_append.1 h with h | h
    · exact o3 x h x (by simp) rfl
    · exact o4 x h rfl
  refine ⟨(H.part x).2 (Or.inr hm), hn, insN_desc H.desc hn, List.pairwise_append.2 ⟨o1, o5, fun y hy z hz => o3 y hy z (by simp [hz])⟩, fun y => ?_, fun y hy h => ?_⟩
  · rw [H.part y, hmem y, insN_mem]
    constructor
    · rintro (h | h | h)
      · exact Or.inl (Or.inl h)
      · exact Or.inr h
      · exact Or.inl (Or.inr h)
    · rintro ((h | h) | h)
      · exact Or.inl h
      · exact Or.inr (Or.inr h)
      · exact Or.inr (Or.inl h)
  · rcases insN_mem.1 hy with hy | rfl
    · exact H.apart y hy ((hmem y).2 (Or.inl h))
    · exact hno h
theorem many_end {k : Nat} {ns : List Nat} (H : Many k [] ns) : ns = downN k := desc_one H.desc (downN_desc k) fun x => by
  rw [downN_mem, H.part x]
  simp

/-! Two that write at one time. -/

/-- The writes of a node: the i-th, as many. -/
def runL (v : ByteArray) (node : Int) : Nat → Nat → D2 → List L5 → Option (List L5)
  | 0, _, _, l => some l
  | m + 1, i, d, l =>
    let e : L5 := ⟨node, (i : Int), 3 + (i : Int), v, false⟩
    if okX l e = true then
      match insL l e d with
      | none => none
      | some l' => runL v node m (i + 1) (node, (i : Int)) l'
    else none
def eqX (a b : L5) : Bool := decide (a.node = b.node) && (decide (a.seq = b.seq) && (decide (a.time = b.time) && (decide (a.val.data.toList = b.val.data.toList) && decide (a.gone = b.gone))))
theorem eqX_eq {a b : L5} (h : eqX a b = true) : a = b := by
  obtain ⟨a1, a2, a3, a4, a5⟩ := a
  obtain ⟨b1, b2, b3, b4, b5⟩ := b
  unfold eqX at h
  simp only [Bool.and_eq_true, decide_eq_true_eq] at h
  obtain ⟨rfl, rfl, rfl, h, rfl⟩ := h
  have : a4 = b4 := by
    apply ByteArray.ext
    simpa using h
  rw [this]
def eqXs : List L5 → List L5 → Bool
  | [], [] => true
  | a :: l, b :: m => eqX a b && eqXs l m
  | _, _ => false
theorem eqXs_eq : ∀ {l m : List L5}, eqXs l m = true → l = m
  | [], [], _ => rfl
  | [], _ :: _, h => by simp [eqXs] at h
  | _ :: _, [], h => by simp [eqXs] at h
  | a :: l, b :: m, h => by
    unfold eqXs at h
    simp only [Bool.and_eq_true] at h
    rw [eqX_eq h.1, eqXs_eq h.2]
abbrev cX : ByteArray := ⟨#[120]⟩
abbrev c0 : ByteArray := ⟨#[48]⟩
abbrev c1 : ByteArray := ⟨#[49]⟩
/-- Three of node 2. -/
def base3 : List L5 := [⟨2, 1, 1, cX, false⟩, ⟨2, 2, 2, cX, false⟩, ⟨2, 3, 3, cX, false⟩]
def refN (a : Nat) : D2 := if a = 0 then (0, 0) else (2, (a : Int))
/-- What they are, all texts one behind the other. -/
def joinX (l : List L5) : List UInt8 := (valsX l).flatMap fun v => v.data.toList
def wantX (a j k : Nat) : List UInt8 := List.replicate a 120 ++ (List.replicate k 49 ++ (List.replicate j 48 ++ List.replicate (3 - a) 120))
def twoB (a j k : Nat) : Bool :=
  match runL c0 0 j 1 (refN a) base3, runL c1 1 k 1 (refN a) base3 with
  | some x, some z =>
    match runL c1 1 k 1 (refN a) x, runL c0 0 j 1 (refN a) z with
    | some y, some w => eqXs y w && decide (joinX y = wantX a j k)
    | _, _ => false
  | _, _ => false
theorem two_all : ∀ a j k : Nat, a < 4 → j < 4 → k < 4 → twoB a (1 + j) (1 + k) = true := by
  have h : ∀ a j k : Fin 4, twoB a.val (1 + j.val) (1 + k.val) = true := by decide +kernel
  exact fun a j k h1 h2 h3 => h ⟨a, h1⟩ ⟨j, h2⟩ ⟨k, h3⟩
theorem two_yes (a j k : Nat) (h1 : a < 4) (h2 : j < 4) (h3 : k < 4) : ∃ x y z, runL c0 0 (1 + j) 1 (refN a) base3 = some x ∧ runL c1 1 (1 + k) 1 (refN a) x = some y ∧ runL c1 1 (1 + k) 1 (refN a) base3 = some z ∧ runL c0 0 (1 + j) 1 (refN a) z = some y ∧ joinX y = wantX a (1 + j) (1 + k) := by
  have h := two_all a j k h1 h2 h3
  unfold twoB at h
  cases ex : runL c0 0 (1 + j) 1 (refN a) base3 with
  | none => rw [ex] at h; simp at h
  | some x =>
    cases ez : runL c1 1 (1 + k) 1 (refN a) base3 with
    | none => rw [ex, ez] at h; simp at h
    | some z =>
      rw [ex, ez] at h
      simp only at h
      cases ey : runL c1 1 (1 + k) 1 (refN a) x with
      | none => rw [ey] at h; simp at h
      | some y =>
        cases ew : runL c0 0 (1 + j) 1 (refN a) z with
        | none => rw [ey, ew] at h; simp at h
        | some w =>
          rw [ey, ew] at h
          simp only [Bool.and_eq_true, decide_eq_true_eq] at h
          have := eqXs_eq h.1
          subst this
          exact ⟨x, y, z, rfl, ey, rfl, ew, h.2⟩

/-! One alone, held against a plain row. -/

structure Serial (i : Nat) (l : List L5) (row : List ByteArray) : Prop where
  once : OnceX l
  mem : ∀ x ∈ l, x.node = 0 ∧ x.time = x.seq ∧ 1 ≤ x.seq ∧ x.seq ≤ i
  row : valsX l = row
  len : l.length ≤ i
theorem serial_nil : Serial 0 [] [] := ⟨List.Pairwise.nil, by simp, rfl, by simp⟩
theorem Serial.live {i : Nat} {l : List L5} {row : List ByteArray} (H : Serial i l row) : (liveL l).length = row.length := by
  rw [← H.row]
  unfold valsX
  rw [List.length_map]
theorem serial_new {i : Nat} {l : List L5} {row : List ByteArray} (H : Serial i l row) : hasX l (0, ((i + 1 : Nat) : Int)) = false := by
  refine hasX_no fun x hx h => ?_
  have h1 := (H.mem x hx).2.2.2
  have h2 : x.seq = ((i + 1 : Nat) : Int) := congrArg Prod.snd h
  omega
theorem serial_more {i : Nat} {l : List L5} {row : List ByteArray} (H : Serial i l row) {v : ByteArray} {d : D2} {m : List L5} {row' : List ByteArray} (hi : insL l ⟨0, ((i + 1 : Nat) : Int), ((i + 1 : Nat) : Int), v, false⟩ d = some m) (hr : valsX m = row') : Serial (i + 1) m row' := by
  refine ⟨once_ins hi H.once (serial_new H), fun x hx => ?_, hr, by rw [insL_len hi]; have := H.len; omega⟩
  rcases (insL_mem hi).1 hx with hx | rfl
  · have := H.mem x hx
    exact ⟨this.1, this.2.1, this.2.2.1, by have := this.2.2.2; omega⟩
  · exact ⟨rfl, rfl, by show (1 : Int) ≤ ((i + 1 : Nat) : Int); omega, by show ((i + 1 : Nat) : Int) ≤ ((i + 1 : Nat) : Int); omega⟩
theorem serial_times {i : Nat} {l : List L5} {row : List ByteArray} (H : Serial i l row) (v : ByteArray) : ∀ x ∈ l, x.time < (⟨0, ((i + 1 : Nat) : Int), ((i + 1 : Nat) : Int), v, false⟩ : L5).time := fun x hx => by
  have := H.mem x hx
  show x.time < ((i + 1 : Nat) : Int)
  omega
theorem serial_first {i : Nat} {l : List L5} {row : List ByteArray} (H : Serial i l row) (v : ByteArray) : ∃ m, insL l ⟨0, ((i + 1 : Nat) : Int), ((i + 1 : Nat) : Int), v, false⟩ (0, 0) = some m ∧ Serial (i + 1) m (v :: row) := by
  obtain ⟨m, h1, h2⟩ := ins_serial0 (e := ⟨0, ((i + 1 : Nat) : Int), ((i + 1 : Nat) : Int), v, false⟩) (serial_times H v) rfl
  exact ⟨m, h1, serial_more H h1 (by unfold valsX; rw [h2, ← H.row]; rfl)⟩
theorem serial_behind {i k : Nat} {l : List L5} {row : List ByteArray} (H : Serial i l row) (v : ByteArray) (hk : k < row.length) : ∃ d m, atX l k = some d ∧ insL l ⟨0, ((i + 1 : Nat) : Int), ((i + 1 : Nat) : Int), v, false⟩ d = some m ∧ Serial (i + 1) m (row.take (k + 1) ++ v :: row.drop (k + 1)) := by
  obtain ⟨x, hx⟩ : ∃ x, (liveL l)[k]? = some x := ⟨_, List.getElem?_eq_getElem (by rw [H.live]; exact hk)⟩
  have hm : x ∈ l := (List.mem_filter.1 (List.mem_of_getElem? hx)).1
  have hz : dotX x ≠ (0, 0) := fun h => by
    have := (H.mem x hm).2.2.1
    have h2 : x.seq = 0 := congrArg Prod.snd h
    omega
  obtain ⟨m, h1, h2⟩ := ins_serial (e := ⟨0, ((i + 1 : Nat) : Int), ((i + 1 : Nat) : Int), v, false⟩) H.once hx hz (serial_times H v) rfl
  refine ⟨dotX x, m, by unfold atX; rw [hx]; rfl, h1, serial_more H h1 ?_⟩
  unfold valsX
  rw [h2, List.map_append, List.map_cons, List.map_take, List.map_drop]
  have : (liveL l).map (·.val) = row := H.row
  rw [this]
theorem serial_era {i k : Nat} {l : List L5} {row : List ByteArray} (H : Serial i l row) (hk : k < row.length) : ∃ d m, atX l k = some d ∧ eraL l d = some m ∧ Serial (i + 1) m (row.take k ++ row.drop (k + 1)) := by
  obtain ⟨x, hx⟩ : ∃ x, (liveL l)[k]? = some x := ⟨_, List.getElem?_eq_getElem (by rw [H.live]; exact hk)⟩
  obtain ⟨m, h1, h2⟩ := era_serial H.once hx
  refine ⟨dotX x, m, by unfold atX; rw [hx]; rfl, h1, ?_⟩
  have h1' := h1
  unfold eraL at h1'
  obtain ⟨j, hj, rfl⟩ := Option.map_eq_some_iff.1 h1'
  refine ⟨once_mark H.once, fun y hy => ?_, ?_, by rw [List.length_modify]; have := H.len; omega⟩
  · rcases mem_mark hy with hy | ⟨z, hz, rfl⟩
    · have := H.mem y hy
      exact ⟨this.1, this.2.1, this.2.2.1, by have := this.2.2.2; omega⟩
    · have := H.mem z hz
      exact ⟨this.1, this.2.1, this.2.2.1, by show z.seq ≤ ((i + 1 : Nat) : Int); have := this.2.2.2; omega⟩
  · unfold valsX
    rw [h2, List.map_append, List.map_take, List.map_drop]
    have : (liveL l).map (·.val) = row := H.row
    rw [this]

/-! Not many, no long texts. -/

def SmallX (l : List L5) : Prop := l.length ≤ 64 ∧ ∀ x ∈ l, x.val.size ≤ 256
theorem smallX_nil : SmallX [] := ⟨by simp, by simp⟩
theorem smallX_ins {l m : List L5} {e : L5} {d : D2} (h : SmallX l) (hl : l.length < 64) (he : e.val.size ≤ 256) (hi : insL l e d = some m) : SmallX m := by
  refine ⟨by rw [insL_len hi]; omega, fun x hx => ?_⟩
  rcases (insL_mem hi).1 hx with hx | rfl
  · exact h.2 x hx
  · exact he
theorem smallX_era {l m : List L5} {d : D2} (h : SmallX l) (hi : eraL l d = some m) : SmallX m := by
  unfold eraL at hi
  obtain ⟨j, hj, rfl⟩ := Option.map_eq_some_iff.1 hi
  refine ⟨by rw [List.length_modify]; exact h.1, fun x hx => ?_⟩
  rcases mem_mark hx with hx | ⟨y, hy, rfl⟩
  · exact h.2 x hx
  · show ByteArray.empty.size ≤ 256
    decide
theorem smallX_live {l : List L5} (h : SmallX l) : SmallX (liveL l) := ⟨Nat.le_trans (live_le l) h.1, fun x hx => h.2 x (List.mem_filter.1 hx).1⟩

end Go.Proofs.Ytghlegidapmpmaa
