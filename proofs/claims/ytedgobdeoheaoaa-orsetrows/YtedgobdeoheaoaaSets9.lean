/-
  Cells that are sets and nothing more: Put, Drop, Dots, Values at them.
-/
import Derived.Test.YtedgobdeoheaoaaDeed9
namespace Go.Proofs.Ytedgobdeoheaoaa
open Go.RowKit Go.Shelf
set_option linter.unusedVariables false
set_option linter.unusedSimpArgs false

/-- A set of those entries, of nothing more. -/
def sc (l : List E3) : Ce := ⟨2, false, 0, 0, ByteArray.empty, 0, 0, l, [], []⟩
abbrev slL (n : Nat) (q : Pl) : List Value := [.int .i64 2, .bool false, .int .i64 0, .int .i64 0, .string ⟨#[]⟩, .int .i64 0, .int .i64 0, .slice q.eo n q.ec, .slice q.lo 0 q.lc, .slice q.so 0 q.sc]
abbrev slV (n : Nat) (q : Pl) : Value := .agg #[.int .i64 2, .bool false, .int .i64 0, .int .i64 0, .string ⟨#[]⟩, .int .i64 0, .int .i64 0, .slice q.eo n q.ec, .slice q.lo 0 q.lc, .slice q.so 0 q.sc]

/-- Not many entries, no long texts. -/
def Small (l : List E3) : Prop := l.length ≤ 64 ∧ ∀ x ∈ l, x.val.size ≤ 256
theorem Small.nil : Small [] := ⟨by simp, fun x hx => by simp at hx⟩
theorem Small.fit {l : List E3} (h : Small l) : Fit (sc l) := by
  refine ⟨?_, by simp [sc], by simp [sc], by simp [sc], fun i x hx => ?_, fun i x hx => by simp [sc] at hx⟩
  · have := h.1
    simp only [sc]
    omega
  · have := h.2 x (List.mem_of_getElem? hx)
    omega
theorem sc_row {w : World} {l : List E3} {q : Pl} (h : FRow w q.eo (flatE l)) : CRow w (sc l) q := ⟨h, FRow.nil _ _, FRow.nil _ _⟩

/-- Put at a set takes it. -/
theorem puts_yes {l : List E3} {q : Pl} {d : D2} {v : ByteArray} (w : World) (m : List E3) (n n' : Nat) (hn : n = l.length) (hr : FRow w q.eo (flatE l)) (hs : Small l) (hb : putB (sc l) d v = true) (hm : putL l d v = m) (hn' : n' = m.length) :
    Calls Try.prog 10 #[slV n q, dv d, .string v] w fun e w' => ∃ q', e = .returned (.tuple #[slV n' q', .int .i64 0]) ∧ FOwn w.heap.size w' q'.eo (flatE m) ∧ Below w.heap.size w w' := by
  subst hn hm hn'
  refine Calls.mono (put_yes (sc l) q d v w (sc_row hr) hs.fit hb) ?_
  rintro e w1 ⟨q', rfl, o, b⟩
  exact ⟨q', rfl, o.1, b⟩

/-- Put at a set refuses. -/
theorem puts_no {l : List E3} {q : Pl} {d : D2} {v : ByteArray} (w : World) (n : Nat) (hn : n = l.length) (hr : FRow w q.eo (flatE l)) (hs : Small l) (hv : v.size ≤ maxLen) (hb : putB (sc l) d v = false) :
    Calls Try.prog 10 #[slV n q, dv d, .string v] w fun e w' => e = .returned (.tuple #[zv 0, .int .i64 900]) ∧ Below w.heap.size w w' := by
  subst hn
  exact put_no (sc l) q d v w (sc_row hr) hs.fit hv hb

/-- Drop at a set. -/
theorem drops_yes {l : List E3} {q : Pl} {ds : List D2} (ao : Option Addr) (ca : Nat) (w : World) (m : List E3) (n k n' : Nat) (hn : n = l.length) (hk : k = ds.length) (hr : FRow w q.eo (flatE l)) (hs : Small l) (hd : FRow w ao (flatD ds)) (hk2 : ds.length ≤ 64) (hm : dropL l ds = m) (hn' : n' = m.length) :
    Calls Try.prog 12 #[slV n q, .slice ao k ca] w fun e w' => ∃ q', e = .returned (.tuple #[slV n' q', .int .i64 0]) ∧ FOwn w.heap.size w' q'.eo (flatE m) ∧ Below w.heap.size w w' := by
  subst hn hm hn' hk
  refine Calls.mono (drop_all (sc l) q ao ca ds w (sc_row hr) hs.fit hd (by omega)) ?_
  rintro e w1 ⟨q', rfl, o, b⟩
  exact ⟨q', rfl, o.1, b⟩

/-- Dots at a set. -/
theorem dotss_yes {l : List E3} {q : Pl} {v : ByteArray} (w : World) (m : List D2) (n n' : Nat) (hn : n = l.length) (hr : FRow w q.eo (flatE l)) (hs : Small l) (hm : dotsL l v = m) (hn' : n' = m.length) :
    Calls Try.prog 16 #[slV n q, .string v] w fun e w' => ∃ ao ca, e = .returned (.tuple #[.slice ao n' ca, .int .i64 0]) ∧ FOwn w.heap.size w' ao (flatD m) ∧ Below w.heap.size w w' := by
  subst hn hm hn'
  exact dots_yes (sc l) q v w (sc_row hr) hs.fit rfl

/-- Values at a set. -/
theorem valss_yes {l : List E3} {q : Pl} (w : World) (m : List S8) (n n' : Nat) (hn : n = l.length) (hr : FRow w q.eo (flatE l)) (hs : Small l) (hm : setV (valsL l) = m) (hn' : n' = m.length) :
    Calls Try.prog 14 #[slV n q] w fun e w' => ∃ ao ca, e = .returned (.tuple #[.slice ao n' ca, .int .i64 0]) ∧ FOwn w.heap.size w' ao (flatS m) ∧ Below w.heap.size w w' := by
  subst hn hm hn'
  exact vals_yes (sc l) q w (sc_row hr) hs.fit rfl

end Go.Proofs.Ytedgobdeoheaoaa
