/-
  The laws' own words for rows of pairs: SamePairs, CopyPairs, LendPairs, KeptPairs, by contracts.
-/
import Derived.Test.YthogncopedfmmaaDoorPairRows
import Derived.Test.YthogncopedfmmaaDoorGau
import Derived.Deep.LoopGhost
import Derived.OwnWalk
namespace Go.Proofs.YthogncopedfmmaaDoor
open Go.RowKit
set_option linter.unusedVariables false

theorem pairs_same {l m : List P2} (hl : l.length = m.length) (h : ∀ i, i < l.length → at2 l i = at2 m i) : l = m := by
  apply List.ext_getElem hl
  intro i h1 h2
  have := h i h1
  simpa [at2, List.getD, h1, h2] using this

set_option maxHeartbeats 400000 in
set_option maxRecDepth 100000 in
/-- Two rows of the same pairs. -/
theorem psame_any (ao bo : Option Addr) (ca cb : Nat) (a : List P2) (w : World) (ha : PRow w ao a) (hb : PRow w bo a) (hla : a.length ≤ maxLen) :
    Calls Tryd.prog 27 #[.slice ao a.length ca, .slice bo a.length cb] w fun e w' => e = .returned (.bool true) ∧ Below w.heap.size w w' := by
  have HA : Hid (PRow w ao a) := ha
  have HC : Hid (PRow w bo a) := hb
  clear ha hb
  unfold maxLen at hla
  have hd0 : ((a.length : Int) != (a.length : Int)) = false := by simp
  go_enter Tryd.func27, Tryd.ntmps27
  go_wp2
  go_loopg [5] a.length (fun n iv wr => ∃ i : Nat, i + n = a.length ∧ iv = .int .i64 i ∧ Below w.heap.size w wr)
  case atStart => exact ⟨0, by omega, rfl, Below.refl _ _⟩
  case round =>
    obtain ⟨i, hin, rfl, hbel⟩ := hrel
    by_cases hi : i < a.length
    · obtain ⟨bk, off, rfl, hb, hc⟩ := HA.out (by omega)
      obtain ⟨bk2, off2, rfl, hb2, hc2⟩ := HC.out (by omega)
      have hx1 := (hbel.cell (p := ⟨bk, off + i * 2, none⟩) (by exact hb)).trans (hc i hi).1
      have hx2 := (hbel.cell (p := ⟨bk, off + i * 2 + 1, none⟩) (by exact hb)).trans (hc i hi).2
      have hy1 := (hbel.cell (p := ⟨bk2, off2 + i * 2, none⟩) (by exact hb2)).trans (hc2 i hi).1
      have hy2 := (hbel.cell (p := ⟨bk2, off2 + i * 2 + 1, none⟩) (by exact hb2)).trans (hc2 i hi).2
      obtain ⟨x, hx⟩ : ∃ x, x = (at2 a i).1 := ⟨_, rfl⟩
      obtain ⟨y, hy⟩ : ∃ y, y = (at2 a i).2 := ⟨_, rfl⟩
      rw [← hx] at hx1 hy1
      rw [← hy] at hx2 hy2
      clear hc hc2 hx hy
      go_wp2
      go_region
      all_goals go_wp2
      all_goals go_roundg (gk - 1)
      case measure => omega
      case rel => exact ⟨i + 1, by omega, by go_num, hbel.drew⟩
    · have hd : decide ((i : Int) < (a.length : Int)) = false := by simp; omega
      go_wp2
      go_ret
      exact ⟨rfl, hbel⟩

set_option maxHeartbeats 400000 in
set_option maxRecDepth 100000 in
theorem pcopy_any (ao : Option Addr) (ca : Nat) (a : List P2) (w : World) (ha : PRow w ao a) (hla : a.length * 16 ≤ 140737488351232) :
    Calls Tryd.prog 20 #[.slice ao a.length ca] w fun e w' => ∃ g c, e = .returned (.slice (some ⟨g, 0, none⟩) a.length c) ∧ w'.ownsRow w.heap.size 23 2 (.slice (some ⟨g, 0, none⟩) a.length c) a.length (flat a) ∧ Below w.heap.size w w' := by
  have K := fun (o : Obj) => ha.later ((Below.refl w.heap.size w).alloc (Nat.le_refl _) o)
  have O : (w.alloc (.cells #[] 23)).ownsRow w.heap.size 23 2 (.slice (some ⟨w.heap.size, 0, none⟩) 0 0) ([] : List P2).length (flat []) := by
    simpa [flat] using World.ownsRow_lit w #[] 0 (base := w.heap.size) (e := 23) (size := 2) (Nat.le_refl _) (by simp) (by simp)
  go_enter Tryd.func20, Tryd.ntmps20
  go_wp2_with (at_builtin; refine wpList_append_prow rfl _ _ rfl (l := []) rfl rfl rfl O (K _) (by simp; omega) (by simp) ?_; intro g' c' w' hown' hbel')
  go_ret
  simp only [List.nil_append] at *
  exact ⟨g', c', rfl, hown', (((Below.refl w.heap.size w).alloc (Nat.le_refl _) _)).trans hbel'⟩

theorem plent_row {B g c n : Nat} {w : World} {l : List P2} (hn : n = l.length) (h : w.ownsRow B 23 2 (.slice (some ⟨g, 0, none⟩) n c) l.length (flat l)) : PRow w (some ⟨g, 0, none⟩) l ∧ l.length ≤ c ∧ B ≤ g ∧ g < w.heap.size := by
  subst hn
  obtain ⟨ao, cap, e, hO⟩ := pown_at h
  simp only [Value.slice.injEq] at e
  obtain ⟨rfl, _, rfl⟩ := e
  refine ⟨hO.row, ?_, ?_, ?_⟩
  · rcases h.2 with ⟨e, _⟩ | ⟨g1, c1, cur, e, _, _, hn, _⟩
    · simp at e
    · simp only [Value.slice.injEq] at e; omega
  · exact (h.lt g rfl).1
  · exact (h.lt g rfl).2

set_option maxHeartbeats 400000 in
set_option maxRecDepth 100000 in
theorem plend_any (ao : Option Addr) (ca : Nat) (a : List P2) (w : World) (ha : PRow w ao a) (hla : a.length * 16 ≤ 140737488351232) :
    Calls Tryd.prog 8 #[.slice ao a.length ca] w fun e w' => ∃ g c, e = .returned (.slice (some ⟨g, 0, none⟩) a.length c) ∧ PRow w' (some ⟨g, 0, none⟩) (a ++ [(77777, 0), (77777, 0)]) ∧ a.length + 2 ≤ c ∧ w.heap.size ≤ g ∧ Below w.heap.size w w' := by
  have C := pcopy_any ao ca a w ha hla
  go_enter Tryd.func8, Tryd.ntmps8
  go_wp2_with fail
  refine C.mono ?_
  rintro e w1 ⟨g, c, rfl, hown, hb1⟩
  clear C ha
  have R := prow_two w1 77777 0 77777 0 23
  have hs1 := hb1.size
  have hown2 := hown.alloc (.cells #[.int .i64 77777, .int .i64 0, .int .i64 77777, .int .i64 0] 23)
  go_wp2_with (at_builtin; refine wpList_append_prow rfl _ _ rfl (l := a) (m := [(77777, 0), (77777, 0)]) rfl rfl rfl hown2 R (by simp; omega) (by simp; omega) ?_; intro g' c' w' hown' hbel'; obtain ⟨hrow, hcap, hg1, hg2⟩ := plent_row rfl hown'; simp only [List.length_append, List.length_cons, List.length_nil] at hcap)
  go_ret
  exact ⟨g', c', rfl, hrow, by omega, hg1, hb1.trans (((Below.refl w.heap.size w1).alloc hs1 _).trans hbel')⟩

set_option maxHeartbeats 400000 in
set_option maxRecDepth 100000 in
theorem pkept_any (g c : Nat) (ao : Option Addr) (ca : Nat) (a : List P2) (w : World) (ha : PRow w ao a) (hx : PRow w (some ⟨g, 0, none⟩) (a ++ [(77777, 0), (77777, 0)])) (hc : a.length + 2 ≤ c) (hla : a.length * 16 ≤ 140737488351232) :
    Calls Tryd.prog 17 #[.slice (some ⟨g, 0, none⟩) a.length c, .slice ao a.length ca] w fun e w' => e = .returned (.bool true) ∧ Below w.heap.size w w' := by
  have hx0 := prow_head hx
  obtain ⟨b, off, e, hb, hcell⟩ := hx (by simp)
  simp only [Option.some.injEq, Addr.mk.injEq, and_true] at e
  obtain ⟨rfl, rfl⟩ := e
  have hc1 : w.cell? ⟨g, a.length * 2, none⟩ = some (.int .i64 77777) ∧ w.cell? ⟨g, a.length * 2 + 1, none⟩ = some (.int .i64 0) := by
    have := hcell a.length (by simp)
    simpa [at2, List.getD] using this
  have hc2 : w.cell? ⟨g, (a.length + 1) * 2, none⟩ = some (.int .i64 77777) ∧ w.cell? ⟨g, (a.length + 1) * 2 + 1, none⟩ = some (.int .i64 0) := by
    have := hcell (a.length + 1) (by simp)
    rw [Nat.zero_add] at this
    rw [this.1, this.2]
    simp [at2, List.getD]
  have S := psame_any (some ⟨g, 0, none⟩) ao c ca a w hx0 ha (by unfold maxLen; omega)
  clear hcell hx hx0 ha
  go_enter Tryd.func17, Tryd.ntmps17
  go_wp2_with fail
  refine S.mono ?_
  rintro e w1 ⟨rfl, h1⟩
  have hd1 : w1.cell? ⟨g, a.length * 2, none⟩ = some (.int .i64 77777) := (h1.cell (by exact hb)).trans hc1.1
  have hd2 : w1.cell? ⟨g, a.length * 2 + 1, none⟩ = some (.int .i64 0) := (h1.cell (by exact hb)).trans hc1.2
  have hd3 : w1.cell? ⟨g, (a.length + 1) * 2, none⟩ = some (.int .i64 77777) := (h1.cell (by exact hb)).trans hc2.1
  have hd4 : w1.cell? ⟨g, (a.length + 1) * 2 + 1, none⟩ = some (.int .i64 0) := (h1.cell (by exact hb)).trans hc2.2
  clear hc1 hc2 S
  go_wp2
  go_ret
  exact ⟨rfl, h1⟩

end Go.Proofs.YthogncopedfmmaaDoor
