/-
  Sums of small pairs, as plain mathematics; a pair appended while others stay.
-/
import Derived.Test.YthogncopedfmmaaDoorRegs
namespace Go.Proofs.YthogncopedfmmaaDoor
open Go.RowKit
set_option linter.unusedVariables false

def sum1 : List P2 → Int
  | [] => 0
  | p :: l => p.1 + sum1 l
def sum2 : List P2 → Int
  | [] => 0
  | p :: l => p.2 + sum2 l

/-- All parts are at most MaxNum. -/
def Small (l : List P2) : Prop := ∀ p ∈ l, (-1099511627776 ≤ p.1 ∧ p.1 ≤ 1099511627776) ∧ (-1099511627776 ≤ p.2 ∧ p.2 ≤ 1099511627776)

theorem sum1_append (l m : List P2) : sum1 (l ++ m) = sum1 l + sum1 m := by
  induction l with
  | nil => simp [sum1]
  | cons p l ih => simp only [List.cons_append, sum1, ih]; omega
theorem sum2_append (l m : List P2) : sum2 (l ++ m) = sum2 l + sum2 m := by
  induction l with
  | nil => simp [sum2]
  | cons p l ih => simp only [List.cons_append, sum2, ih]; omega

theorem sums_reverse (l : List P2) : sum1 l.reverse = sum1 l ∧ sum2 l.reverse = sum2 l := by
  induction l with
  | nil => exact ⟨rfl, rfl⟩
  | cons p l ih =>
    rw [List.reverse_cons, sum1_append, sum2_append, ih.1, ih.2]
    simp only [sum1, sum2]
    omega

theorem Small.reverse {l : List P2} (h : Small l) : Small l.reverse := fun p hp => h p (by simpa using hp)

theorem Small.snoc {l : List P2} (h : Small l) {x y : Int} (hx : -1099511627776 ≤ x ∧ x ≤ 1099511627776) (hy : -1099511627776 ≤ y ∧ y ≤ 1099511627776) : Small (l ++ [(x, y)]) := fun p hp => by
  simp only [List.mem_append, List.mem_singleton] at hp
  rcases hp with hp | rfl
  · exact h p hp
  · exact ⟨hx, hy⟩

theorem small_bounds {l : List P2} (h : Small l) : (-(l.length * 1099511627776 : Int) ≤ sum1 l ∧ sum1 l ≤ l.length * 1099511627776) ∧ (-(l.length * 1099511627776 : Int) ≤ sum2 l ∧ sum2 l ≤ l.length * 1099511627776) := by
  induction l with
  | nil => simp [sum1, sum2]
  | cons p l ih =>
    have h1 := ih (fun q hq => h q (by simp [hq]))
    have h2 := h p (by simp)
    simp only [sum1, sum2, List.length_cons]
    omega

theorem sumF_small (l : List P2) (x y : Int) (h : Small l) (hl : l.length ≤ 1000) (hx : -1099511627776000 ≤ x ∧ x ≤ 1099511627776000) (hy : -1099511627776000 ≤ y ∧ y ≤ 1099511627776000)
    (hk : ∀ k, k ≤ l.length → (-1099511627776000 ≤ x + sum1 (l.take k) ∧ x + sum1 (l.take k) ≤ 1099511627776000) ∧ (-1099511627776000 ≤ y + sum2 (l.take k) ∧ y + sum2 (l.take k) ≤ 1099511627776000)) :
    sumF l x y = (x + sum1 l, y + sum2 l, 0) := by
  induction l generalizing x y with
  | nil => simp [sumF, sum1, sum2]
  | cons p l ih =>
    have hp := h p (by simp)
    have h1 := hk 1 (by simp)
    simp only [List.take_succ_cons, List.take_zero, sum1, sum2, Int.add_zero] at h1
    have hB : addB x y p.1 p.2 = true := add_small (by omega) (by omega) (by omega) (by omega)
    rw [sumF, hB, if_pos rfl, ih (x + p.1) (y + p.2) (fun q hq => h q (by simp [hq])) (by simp at hl; omega) (by omega) (by omega) ?_]
    · simp only [sum1, sum2, Int.add_assoc]
    · intro k hk2
      have := hk (k + 1) (by simp; omega)
      simp only [List.take_succ_cons, sum1, sum2] at this
      omega

theorem sumF_is {l : List P2} (h : Small l) (hl : l.length ≤ 100) : sumF l 0 0 = (sum1 l, sum2 l, 0) := by
  have := sumF_small l 0 0 h (by omega) (by omega) (by omega) (fun k hk => by
    have h1 : Small (l.take k) := fun p hp => h p (List.mem_of_mem_take hp)
    have h2 := small_bounds h1
    have h3 : (l.take k).length ≤ 100 := by simp; omega
    generalize (l.take k).length = q at h2 h3
    omega)
  simpa using this

/-- A block that is not the row's own stays, whatever is appended to the row. -/
theorem two_grown {w w' : World} {v : Value} {k : Nat} {x y : Int} (hg : w.grownBy w' v.ownBlock) (h : Two w k x y) (hk : v.ownBlock ≠ some k) : Two w' k x y := by
  obtain ⟨h1, h2, h3, h4, h5⟩ := h
  have e : w'.heap[k]? = w.heap[k]? := hg.block k h1 (fun e => hk e.symm)
  exact ⟨Nat.lt_of_lt_of_le h1 hg.size, (World.cell?_of_block e).trans h2, (World.cell?_of_block e).trans h3, (World.frozen?_of_block e).trans h4, (World.frozen?_of_block e).trans h5⟩

/-- 'append(out, p)', out the call's own pairs: what else stays. -/
theorem wpList_append_pair2 {ops : Array Oper} {rest : List Oper} {o : Oper} {a : Act} {Q : Exit → Act → World → Prop} (hgd : o.guard = none) (s x : Operand)
    (ho : o.op = .call { callee := .builtin .append, args := #[s, x], argTypes := #[24, 24] })
    {B H : Nat} {v : Value} {l : List P2} {wr : World} (hH : wr.heap.size = H) (c d : Int)
    (hs : a.eval s = v) (hx : a.eval x = .slice (some ⟨H, 0, none⟩) 1 1)
    (hown : wr.ownsRow B 23 2 v l.length (flat l)) (hlen : l.length < 8796093022208) (hB : B ≤ wr.heap.size)
    (h : ∀ g cap w', w'.ownsRow B 23 2 (.slice (some ⟨g, 0, none⟩) (l.length + 1) cap) (l ++ [(c, d)]).length (flat (l ++ [(c, d)])) → Below B wr w' → (∀ k p q, Two wr k p q → v.ownBlock ≠ some k → Two w' k p q) → wpList Tryd.prog ops Q rest (a.put o.dst (.slice (some ⟨g, 0, none⟩) (l.length + 1) cap)) w') :
    wpList Tryd.prog ops Q (o :: rest) a (wr.alloc (.cells #[.int .i64 c, .int .i64 d] 23)) := by
  subst hH
  obtain ⟨i0, hi, hz0, hz1, hz2⟩ := info_parts Tryd.infoPair
  refine wpList_append_lies _ hgd s x 24 ho B 23 i0 (.agg #[.int .i64 0, .int .i64 0]) 2 16 Tryd.underlying24 hi hz0 hz1 hz2 rfl (by decide) v l.length (flat l) hs (hown.alloc _) ⟨wr.heap.size, 0, none⟩ 1 1 (flat [(c, d)]) hx rfl ?_ ?_ (by omega) ?_ ?_ ?_ _ rfl ?_
  · exact news_at (m := [(c, d)]) fun i hi => by
      have : i = 0 := by simpa using hi
      subst this
      simp [at2, World.cell?_alloc_at]
  · intro u hu; exact oneCell_flat hu
  · unfold maxLen; omega
  · omega
  · simp; omega
  · intro g cap w' hown' hgrow _ _
    have e : (l ++ [(c, d)]).length = l.length + 1 := by simp
    refine h g cap w' ?_ ?_ ?_
    · rw [e, flat_append]; exact hown'
    · exact ((Below.refl _ _).alloc hB _).trans (below_grown2 (hown.alloc _) (by simp; omega) hgrow)
    · exact fun k p q hk hne => two_grown hgrow (hk.alloc _) hne

/-- A row stays where another block is written. -/
theorem own_set {w : World} {B n k o : Nat} {v u : Value} {xs : List Value} (h : w.ownsRow B 23 2 v n xs) (hk : k < B) : (w.setCell ⟨k, o, none⟩ u).ownsRow B 23 2 v n xs := by
  refine ⟨h.1, ?_⟩
  rcases h.2 with ⟨rfl, h0⟩ | ⟨g, cap, cur, rfl, hb, hh, r⟩
  · exact Or.inl ⟨rfl, h0⟩
  · refine Or.inr ⟨g, cap, cur, rfl, hb, ?_, r⟩
    rw [Below.heap_setCell _ _ _ _ (by simp; omega)]
    exact hh

theorem own_lt {w : World} {B n : Nat} {v : Value} {xs : List Value} (h : w.ownsRow B 23 2 v n xs) : ∀ g, v.ownBlock = some g → g < w.heap.size := fun g hg => (h.lt g hg).2

end Go.Proofs.YthogncopedfmmaaDoor
