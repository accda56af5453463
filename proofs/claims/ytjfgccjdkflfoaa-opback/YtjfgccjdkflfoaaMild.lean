/-
  A region that draws its order, whose operations only read and whose callees only make memory: one walk in the order of the text (the library's theorem on quiet regions, at the class of the worlds that stand above one).
-/
import Derived.Test.YtjfgccjdkflfoaaCe
import Derived.Deep.QuietTactic
import Derived.BigQuiet
namespace Go.Proofs.Ytjfgccjdkflfoaa
open Go.RowKit
set_option linter.unusedVariables false

/-- A world that stands above w1 from B on. -/
structure MW (B : Nat) (w1 : World) where
  w : World
  h : Below B w1 w ∧ B ≤ w.heap.size

theorem MW.cell {B : Nat} {w1 : World} {b o : Nat} {v : Value} (hv : w1.cell? ⟨b, o, none⟩ = some v) (hb : b < B) (r : MW B w1) : r.w.cell? ⟨b, o, none⟩ = some v := (r.h.1.cell (p := ⟨b, o, none⟩) (by exact hb)).trans hv
theorem MW.has {B : Nat} {w1 : World} {b i : Nat} {xs : List Value} {v : Value} (hv : Has w1 b xs) (hb : b < B) (hi : xs[i]? = some v) (r : MW B w1) : r.w.cell? ⟨b, i, none⟩ = some v := MW.cell (hv.at i hi) hb r
theorem MW.later {B : Nat} {w1 w2 : World} (r : MW B w1) (h : Below r.w.heap.size r.w w2) : ∃ r2 : MW B w1, w2 = r2.w := ⟨⟨w2, r.h.1.trans (h.mono r.h.2), Nat.le_trans r.h.2 h.size⟩, rfl⟩
theorem MW.same {B : Nat} {w1 w2 : World} (r : MW B w1) (h : w2 = r.w) : ∃ r2 : MW B w1, w2 = r2.w := ⟨r, h⟩

theorem MW.some {B : Nat} {w1 : World} (h : w1.heap.size = B) : Nonempty (MW B w1) := ⟨⟨w1, Below.refl _ _, Nat.le_of_eq h.symm⟩⟩

theorem wp_region_mild {P : Program} {id : Nat} {Q : Exit → Act → World → Prop} {a : Act} {w : World} {l : List Oper} {B : Nat} (hB0 : w.heap.size = B) (hm : P.follows .mixedOrders = true) (hB : Region.lexB .any l.toArray = true)
    (h : wpQuiet P l.toArray (fun w' => ∃ r : MW B w, w' = r.w) (fun a' => ∀ w', (∃ r : MW B w, w' = r.w) → Q .normal a' w') l a) : (Code.region id l.toArray true).wp P Q a w :=
  wp_region_quiet (C := fun w' => ∃ r : MW B w, w' = r.w) hm hB ⟨⟨w.drew, (Below.refl _ _).drew, Nat.le_of_eq hB0.symm⟩, rfl⟩ (by simpa using h)

/-- Fourteen cells, one by one. -/
theorem Has.f14 {w : World} {g : Nat} {u0 u1 u2 u3 u4 u5 u6 u7 u8 u9 u10 u11 u12 u13 : Value} (h : Has w g [u0, u1, u2, u3, u4, u5, u6, u7, u8, u9, u10, u11, u12, u13]) :
    w.cell? ⟨g, 0, none⟩ = some u0 ∧ w.cell? ⟨g, 1, none⟩ = some u1 ∧ w.cell? ⟨g, 2, none⟩ = some u2 ∧ w.cell? ⟨g, 3, none⟩ = some u3 ∧ w.cell? ⟨g, 4, none⟩ = some u4 ∧ w.cell? ⟨g, 5, none⟩ = some u5 ∧ w.cell? ⟨g, 6, none⟩ = some u6 ∧ w.cell? ⟨g, 7, none⟩ = some u7 ∧ w.cell? ⟨g, 8, none⟩ = some u8 ∧ w.cell? ⟨g, 9, none⟩ = some u9 ∧ w.cell? ⟨g, 10, none⟩ = some u10 ∧ w.cell? ⟨g, 11, none⟩ = some u11 ∧ w.cell? ⟨g, 12, none⟩ = some u12 ∧ w.cell? ⟨g, 13, none⟩ = some u13 :=
  ⟨h.at 0 rfl, h.at 1 rfl, h.at 2 rfl, h.at 3 rfl, h.at 4 rfl, h.at 5 rfl, h.at 6 rfl, h.at 7 rfl, h.at 8 rfl, h.at 9 rfl, h.at 10 rfl, h.at 11 rfl, h.at 12 rfl, h.at 13 rfl⟩
theorem Has.g14 {w : World} {g B : Nat} {u0 u1 u2 u3 u4 u5 u6 u7 u8 u9 u10 u11 u12 u13 : Value} (h : Has w g [u0, u1, u2, u3, u4, u5, u6, u7, u8, u9, u10, u11, u12, u13]) (hb : g < B) :
    (∀ r : MW B w, r.w.cell? ⟨g, 0, none⟩ = some u0) ∧ (∀ r : MW B w, r.w.cell? ⟨g, 1, none⟩ = some u1) ∧ (∀ r : MW B w, r.w.cell? ⟨g, 2, none⟩ = some u2) ∧ (∀ r : MW B w, r.w.cell? ⟨g, 3, none⟩ = some u3) ∧ (∀ r : MW B w, r.w.cell? ⟨g, 4, none⟩ = some u4) ∧ (∀ r : MW B w, r.w.cell? ⟨g, 5, none⟩ = some u5) ∧ (∀ r : MW B w, r.w.cell? ⟨g, 6, none⟩ = some u6) ∧ (∀ r : MW B w, r.w.cell? ⟨g, 7, none⟩ = some u7) ∧ (∀ r : MW B w, r.w.cell? ⟨g, 8, none⟩ = some u8) ∧ (∀ r : MW B w, r.w.cell? ⟨g, 9, none⟩ = some u9) ∧ (∀ r : MW B w, r.w.cell? ⟨g, 10, none⟩ = some u10) ∧ (∀ r : MW B w, r.w.cell? ⟨g, 11, none⟩ = some u11) ∧ (∀ r : MW B w, r.w.cell? ⟨g, 12, none⟩ = some u12) ∧ (∀ r : MW B w, r.w.cell? ⟨g, 13, none⟩ = some u13) :=
  ⟨MW.has h hb rfl, MW.has h hb rfl, MW.has h hb rfl, MW.has h hb rfl, MW.has h hb rfl, MW.has h hb rfl, MW.has h hb rfl, MW.has h hb rfl, MW.has h hb rfl, MW.has h hb rfl, MW.has h hb rfl, MW.has h hb rfl, MW.has h hb rfl, MW.has h hb rfl⟩

end Go.Proofs.Ytjfgccjdkflfoaa
