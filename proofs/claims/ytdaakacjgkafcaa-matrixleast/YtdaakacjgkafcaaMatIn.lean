/-
  One matrix of the call's own, through its life: New, Learn, Row, Least by short contracts.
-/
import Derived.Test.YtdaakacjgkafcaaMatNew
import Derived.Test.YtdaakacjgkafcaaMatLearn
import Derived.Test.YtdaakacjgkafcaaMatLeast
import Derived.Test.YtdaakacjgkafcaaAwake4
namespace Go.Proofs.Ytdaakacjgkafcaa
open Go.RowKit
set_option linter.unusedVariables false

/-- Since w0 nothing old has turned, and the matrix of these rows has been made. -/
def MatIn (w0 w : World) (P : Nat) (rows : List (List Int)) : Prop :=
  ∃ F, MatAt w F P rows ∧ (∀ k, F k → w0.heap.size ≤ k) ∧ Below w0.heap.size w0 w

theorem MatIn.later {w0 w w' : World} {P : Nat} {rows : List (List Int)} (h : MatIn w0 w P rows) (hb : Below w.heap.size w w') : MatIn w0 w' P rows := by
  obtain ⟨F, h1, h2, h3⟩ := h
  exact ⟨F, h1.later hb, h2, thenB h3 hb⟩

theorem MatIn.alloc {w0 w : World} {P : Nat} {rows : List (List Int)} (h : MatIn w0 w P rows) (o : Obj) : MatIn w0 (w.alloc o) P rows := h.later (below_alloc w o)

theorem MatIn.below {w0 w : World} {P : Nat} {rows : List (List Int)} (h : MatIn w0 w P rows) : Below w0.heap.size w0 w := by
  obtain ⟨F, h1, h2, h3⟩ := h
  exact h3

theorem new_in (w0 : World) {n : Nat} {nodes : Int} {w : World} (hn : nodes = n) (h1 : 1 ≤ n) (h2 : n ≤ 16) (hb : Below w0.heap.size w0 w) :
    Calls Try.prog 6 #[.int .i64 nodes] w fun e w' => ∃ P, e = .returned (.tuple #[.pointer (some ⟨P, 0, none⟩), .int .i64 0]) ∧ MatIn w0 w' P (Mx.zeros n) := by
  subst hn
  refine (new_any n w h1 h2).mono ?_
  rintro e w' ⟨F, P, rfl, h3, h4, h5⟩
  exact ⟨P, rfl, F, h3, fun k hk => Nat.le_trans hb.size (h4 k hk), thenB hb h5⟩

theorem newBad_in {nodes : Int} {w : World} (h : ¬ (1 ≤ nodes ∧ nodes ≤ 16)) :
    Calls Try.prog 6 #[.int .i64 nodes] w fun e w' => e = .returned (.tuple #[.pointer none, .int .i64 500]) ∧ Below w.heap.size w w' :=
  (newBad_any nodes w h).mono fun e w' ⟨he, hw⟩ => ⟨he, by rw [hw]; exact Below.refl _ _⟩

theorem learn_in {w0 w : World} {P : Nat} {rows : List (List Int)} {node : Int} {bo : Option Addr} {cb m : Nat} {v : List Int} (hm : MatIn w0 w P rows) (hg : Mx.Good rows) (hv : RowAt w bo v) (hl : v.length = m) {rows' : List (List Int)} {n : Int} (h : Mx.Learnt rows node v rows' n) :
    Calls Try.prog 12 #[.pointer (some ⟨P, 0, none⟩), .int .i64 node, .slice bo m cb] w fun e w' => e = .returned (.int .i64 n) ∧ MatIn w0 w' P rows' := by
  subst hl
  obtain ⟨F, h1, h2, h3⟩ := hm
  refine (learn_any F P rows node bo cb v w h1 hg hv h).mono ?_
  rintro e w' ⟨rfl, ⟨F', h4, h5⟩, h6⟩
  refine ⟨rfl, F', h4, fun k hk => ?_, h3.trans (h6.below h3.size h2)⟩
  rcases h5 k hk with h | h
  · exact h2 k h
  · exact Nat.le_trans h3.size h

theorem row_in {w0 w : World} {P : Nat} {rows : List (List Int)} {node : Int} (hm : MatIn w0 w P rows) (hg : Mx.Good rows) {l : List Int} {n : Int} (h : Mx.Rowed rows node l n) :
    Calls Try.prog 20 #[.pointer (some ⟨P, 0, none⟩), .int .i64 node] w fun e w' => ∃ ro rc, e = .returned (.tuple #[.slice ro l.length rc, .int .i64 n]) ∧ OwnAt w.heap.size w' ro l ∧ Below w.heap.size w w' := by
  obtain ⟨F, h1, h2, h3⟩ := hm
  exact row_any F P rows node w h1 hg h

theorem least_in {w0 w : World} {P : Nat} {rows : List (List Int)} (hm : MatIn w0 w P rows) (hg : Mx.Good rows) {l : List Int} (h : Mx.least rows = l) :
    Calls Try.prog 10 #[.pointer (some ⟨P, 0, none⟩)] w fun e w' => ∃ ro rc, e = .returned (.slice ro l.length rc) ∧ OwnAt w.heap.size w' ro l ∧ Below w.heap.size w w' := by
  subst h
  obtain ⟨F, h1, h2, h3⟩ := hm
  exact least_any F P rows w h1 hg

end Go.Proofs.Ytdaakacjgkafcaa
