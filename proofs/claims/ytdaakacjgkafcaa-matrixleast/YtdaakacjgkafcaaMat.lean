/-
  A matrix in memory; package matrix by contracts: has, Row, New, Learn, Least.
-/
import Derived.Test.YtdaakacjgkafcaaMx
import Derived.Test.YtdaakacjgkafcaaKept
import Derived.Test.YtdaakacjgkafcaaIntAppend
import Derived.Test.YtdaakacjgkafcaaMadeInts
import Derived.Deep.LoopGhost
import Derived.OwnWalk
import Derived.Lib.SliceRun
namespace Go.Proofs.Ytdaakacjgkafcaa
open Go.RowKit
set_option linter.unusedVariables false

/-- The row l, whose place lies in the cell i of block R; it lies in a block of F, not in R. -/
def CellRow (w : World) (F : Nat → Prop) (R i : Nat) (l : List Int) : Prop :=
  w.frozen? ⟨R, i, none⟩ = false ∧ ∃ b off ca, w.cell? ⟨R, i, none⟩ = some (.slice (some ⟨b, off, none⟩) l.length ca) ∧ F b ∧ b ≠ R ∧ b < w.heap.size ∧ ∀ j, j < l.length → w.cell? ⟨b, off + j, none⟩ = some (.int .i64 (l.getD j 0))

/-- The matrix of these rows, in the blocks of F; it is the pointer to block P. -/
def MatAt (w : World) (F : Nat → Prop) (P : Nat) (rows : List (List Int)) : Prop :=
  ∃ R c, F P ∧ F R ∧ P ≠ R ∧ (∀ k, F k → k < w.heap.size) ∧ w.cell? ⟨P, 0, none⟩ = some (.slice (some ⟨R, 0, none⟩) rows.length c) ∧ rows.length ≤ c ∧ ∀ i, i < rows.length → CellRow w F R i (rows.getD i [])

theorem CellRow.kept {F S : Nat → Prop} {w w' : World} {R i : Nat} {l : List Int} (h : CellRow w F R i l) (hR : R < w.heap.size) (hF : F R) (hk : Kept S w w') (hn : ∀ k, F k → ¬ S k) : CellRow w' F R i l := by
  obtain ⟨h1, b, off, ca, h2, h3, h4, h5, h6⟩ := h
  refine ⟨(hk.frozen hR (hn _ hF)).trans h1, b, off, ca, (hk.cell hR (hn _ hF)).trans h2, h3, h4, Nat.lt_of_lt_of_le h5 hk.size, fun j hj => (hk.cell h5 (hn _ h3)).trans (h6 j hj)⟩

theorem MatAt.kept {F S : Nat → Prop} {w w' : World} {P : Nat} {rows : List (List Int)} (h : MatAt w F P rows) (hk : Kept S w w') (hn : ∀ k, F k → ¬ S k) : MatAt w' F P rows := by
  obtain ⟨R, c, h1, h2, h3, h4, h5, h6, h7⟩ := h
  exact ⟨R, c, h1, h2, h3, fun k hk' => Nat.lt_of_lt_of_le (h4 k hk') hk.size, (hk.cell (h4 _ h1) (hn _ h1)).trans h5, h6, fun i hi => (h7 i hi).kept (h4 _ h2) h2 hk hn⟩

theorem MatAt.later {F : Nat → Prop} {w w' : World} {P : Nat} {rows : List (List Int)} (h : MatAt w F P rows) (hb : Below w.heap.size w w') : MatAt w' F P rows :=
  h.kept (S := fun _ => False) (Kept.of hb) (fun _ _ h => h)

theorem MatAt.lt {F : Nat → Prop} {w : World} {P : Nat} {rows : List (List Int)} (h : MatAt w F P rows) {k : Nat} (hk : F k) : k < w.heap.size := by
  obtain ⟨_, _, _, _, _, h4, _⟩ := h
  exact h4 k hk

/-- A row is replaced. -/
theorem MatAt.put {F : Nat → Prop} {w w1 : World} {P : Nat} {rows : List (List Int)} (h : MatAt w F P rows) (hb : Below w.heap.size w w1) {k : Nat} (hk : k < rows.length) {ro : Option Addr} {rc : Nat} {l : List Int} (hl : 0 < l.length) (ho : OwnAt w.heap.size w1 ro l) :
    ∃ R c, w.cell? ⟨P, 0, none⟩ = some (.slice (some ⟨R, 0, none⟩) rows.length c) ∧ rows.length ≤ c ∧ F P ∧ F R ∧ P < w.heap.size ∧ R < w.heap.size ∧ (∃ v, w.cell? ⟨R, k, none⟩ = some v) ∧ w.frozen? ⟨R, k, none⟩ = false ∧
      MatAt (w1.setCell ⟨R, k, none⟩ (.slice ro l.length rc)) (fun x => F x ∨ (w.heap.size ≤ x ∧ x < w1.heap.size)) P (rows.set k l) ∧ Kept F w (w1.setCell ⟨R, k, none⟩ (.slice ro l.length rc)) := by
  obtain ⟨R, c, h1, h2, h3, h4, h5, h6, h7⟩ := h
  have hP := h4 _ h1
  have hR := h4 _ h2
  obtain ⟨z1, zb, zo, zc, z2, _⟩ := h7 k hk
  obtain ⟨b, off, rfl, hB, hlt, hcell⟩ := ho hl
  have hs := hb.size
  refine ⟨R, c, h5, h6, h1, h2, hP, hR, ⟨_, z2⟩, z1, ⟨R, c, Or.inl h1, Or.inl h2, h3, ?_, ?_, by simpa using h6, ?_⟩, (Kept.of hb).set (by exact h2) _⟩
  · rintro x (hx | ⟨_, hx⟩)
    · have := h4 x hx; simp; omega
    · simpa using hx
  · rw [World.cell?_setCell_other _ _ _ _ (by first | (simp; done) | (simp; omega)), hb.cell (by exact hP), h5]
    simp
  · intro i hi
    simp only [List.length_set] at hi
    by_cases e : k = i
    · subst e
      have el : (rows.set k l).getD k [] = l := by simp [List.getD, hi]
      rw [el]
      refine ⟨by rw [World.frozen?_setCell, hb.frozen (by exact hR)]; exact z1, b, off, rc, World.cell?_setCell_same _ _ _ ((hb.cell (by exact hR)).trans z2), Or.inr ⟨hB, hlt⟩, by omega, by simpa using hlt, fun j hj => ?_⟩
      rw [World.cell?_setCell_other _ _ _ _ (by first | (simp; done) | (simp; omega))]
      exact (hcell j hj).1
    · have el : (rows.set k l).getD i [] = rows.getD i [] := by simp [List.getD, List.getElem?_set_ne e]
      rw [el]
      obtain ⟨y1, b2, off2, ca2, y2, y3, y4, y5, y6⟩ := h7 i hi
      refine ⟨by rw [World.frozen?_setCell, hb.frozen (by exact hR)]; exact y1, b2, off2, ca2, ?_, Or.inl y3, y4, by simp; omega, fun j hj => ?_⟩
      · rw [World.cell?_setCell_other _ _ _ _ (by first | (simp; done) | (simp; omega)), hb.cell (by exact hR)]; exact y2
      · rw [World.cell?_setCell_other _ _ _ _ (by first | (simp; done) | (simp; omega)), hb.cell (by exact y5)]; exact y6 j hj

/-- What a walk reads of a matrix: the rows' block, a row's place and numbers. -/
theorem MatAt.read {F : Nat → Prop} {w : World} {P : Nat} {rows : List (List Int)} (h : MatAt w F P rows) {k : Nat} (hk : k < rows.length) :
    ∃ R c b off ca, w.cell? ⟨P, 0, none⟩ = some (.slice (some ⟨R, 0, none⟩) rows.length c) ∧ rows.length ≤ c ∧ w.cell? ⟨R, k, none⟩ = some (.slice (some ⟨b, off, none⟩) (rows.getD k []).length ca) ∧ RowAt w (some ⟨b, off, none⟩) (rows.getD k []) ∧ F b := by
  obtain ⟨R, c, h1, h2, h3, h4, h5, h6, h7⟩ := h
  obtain ⟨_, b, off, ca, y2, y3, y4, y5, y6⟩ := h7 k hk
  exact ⟨R, c, b, off, ca, h5, h6, y2, fun _ => ⟨b, off, rfl, y5, y6⟩, y3⟩

theorem MatAt.head {F : Nat → Prop} {w : World} {P : Nat} {rows : List (List Int)} (h : MatAt w F P rows) :
    ∃ R c, w.cell? ⟨P, 0, none⟩ = some (.slice (some ⟨R, 0, none⟩) rows.length c) ∧ rows.length ≤ c := by
  obtain ⟨R, c, h1, h2, h3, h4, h5, h6, h7⟩ := h
  exact ⟨R, c, h5, h6⟩

set_option maxHeartbeats 400000 in
set_option maxRecDepth 100000 in
theorem hasNode_any (F : Nat → Prop) (P : Nat) (rows : List (List Int)) (node : Int) (w : World) (hm : MatAt w F P rows) {b : Bool} (h : b = true ↔ Mx.Node rows node) :
    Calls Try.prog 23 #[.pointer (some ⟨P, 0, none⟩), .int .i64 node] w fun e w' => e = .returned (.bool b) ∧ w' = w := by
  obtain ⟨R, c, h1, h2⟩ := hm.head
  have HB : Hid (b = true ↔ Mx.Node rows node) := h
  clear h hm
  by_cases h0 : 0 ≤ node
  · by_cases h3 : node < (rows.length : Int)
    · have hb : b = true := HB.out.2 ⟨h0, h3⟩
      subst hb
      have d1 : decide (0 ≤ node) = true := by simpa using h0
      have d2 : decide (node < (rows.length : Int)) = true := by simpa using h3
      go_enter Try.func23, Try.ntmps23
      go_wp2
      go_ret
      exact ⟨rfl, rfl⟩
    · have hb : b = false := by
        cases b with
        | false => rfl
        | true => exact absurd (HB.out.1 rfl).2 h3
      subst hb
      have d1 : decide (0 ≤ node) = true := by simpa using h0
      have d2 : decide (node < (rows.length : Int)) = false := by simpa using h3
      go_enter Try.func23, Try.ntmps23
      go_wp2
      go_ret
      exact ⟨rfl, rfl⟩
  · have hb : b = false := by
      cases b with
      | false => rfl
      | true => exact absurd (HB.out.1 rfl).1 h0
    subst hb
    have d1 : decide (0 ≤ node) = false := by simpa using h0
    go_enter Try.func23, Try.ntmps23
    go_wp2
    go_ret
    exact ⟨rfl, rfl⟩

set_option maxHeartbeats 400000 in
set_option maxRecDepth 100000 in
theorem cloneInts_any (b off ca : Nat) (l : List Int) (w : World) (ha : RowAt w (some ⟨b, off, none⟩) l) (hla : l.length * 8 ≤ 140737488351232) :
    Calls Try.prog 22 #[.slice (some ⟨b, off, none⟩) l.length ca] w fun e w' => ∃ g c, e = .returned (.slice (some ⟨g, 0, none⟩) l.length c) ∧ OwnAt w.heap.size w' (some ⟨g, 0, none⟩) l ∧ Below w.heap.size w w' := by
  have K := fun (o : Obj) => ha.later ((Below.refl w.heap.size w).alloc (Nat.le_refl _) o)
  have O : (w.alloc (.cells #[] 3)).ownsRow w.heap.size 3 1 (.slice (some ⟨w.heap.size, 0, none⟩) 0 0) ([] : List Int).length (([] : List Int).map (.int .i64)) := by
    simpa using World.ownsRow_lit w #[] 0 (base := w.heap.size) (e := 3) (size := 1) (Nat.le_refl _) (by simp) (by simp)
  have hnil : ∀ W : World, (binOp .eql 32 (.slice (some ⟨b, off, none⟩) l.length ca) (.slice none 0 0)).run Try.prog W = .ok (.bool false) W := fun W => Lib.run_eql_slice_nil W 32 3 _ _ _ _ _ Try.underlying32
  go_enter Try.func22, Try.ntmps22
  go_wp2_with (at_builtin; refine wpList_append_row rfl _ _ rfl (l := []) rfl rfl rfl O (K _) (by simp; omega) (by simp) ?_; intro g' c' w' hown' hbel')
  go_ret
  simp only [List.nil_append] at *
  refine ⟨g', c', rfl, ?_, (((Below.refl w.heap.size w).alloc (Nat.le_refl _) _)).trans hbel'⟩
  obtain ⟨ao, cap, e, hO⟩ := own_at hown'
  simp only [Value.slice.injEq] at e
  obtain ⟨rfl, _, rfl⟩ := e
  exact hO

end Go.Proofs.Ytdaakacjgkafcaa
