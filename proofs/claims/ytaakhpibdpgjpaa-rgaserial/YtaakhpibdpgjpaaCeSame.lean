/-
  The laws' own SameCell and SameInts at two cells of the same data, by contracts.
-/
import Derived.Test.YtaakhpibdpgjpaaCeCopy
import Derived.Deep.LoopGhost
import Derived.OwnWalk
namespace Go.Proofs.Ytaakhpibdpgjpaa
open Go.RowKit
set_option linter.unusedVariables false
set_option linter.unusedSimpArgs false

set_option maxHeartbeats 400000 in
set_option maxRecDepth 100000 in
theorem sameInts_any (ao bo : Option Addr) (ca cb : Nat) (a : List Int) (w : World) (ha : FRow w ao (flatI a)) (hb : FRow w bo (flatI a)) (hla : a.length ≤ maxLen) :
    Calls Try.prog 42 #[.slice ao a.length ca, .slice bo a.length cb] w fun e w' => e = .returned (.bool true) ∧ Below w.heap.size w w' := by
  have HA : Hid (FRow w ao (flatI a)) := ha
  have HC : Hid (FRow w bo (flatI a)) := hb
  clear ha hb
  unfold maxLen at hla
  have hd0 : ((a.length : Int) != (a.length : Int)) = false := by simp
  go_enter Try.func42, Try.ntmps42
  go_wp2
  go_loopg [5] a.length (fun n iv wr => ∃ i : Nat, i + n = a.length ∧ iv = .int .i64 i ∧ Below w.heap.size w wr)
  case atStart => exact ⟨0, by omega, rfl, Below.refl _ _⟩
  case round =>
    obtain ⟨i, hin, rfl, hbel⟩ := hrel
    by_cases hi : i < a.length
    · obtain ⟨bk, off, rfl, hb, hc⟩ := HA.out (by rw [flatI_len]; omega)
      obtain ⟨bk2, off2, rfl, hb2, hc2⟩ := HC.out (by rw [flatI_len]; omega)
      obtain ⟨x, hx⟩ : ∃ x, a[i]? = some x := ⟨_, List.getElem?_eq_getElem hi⟩
      have hcx := (hbel.cell (p := ⟨bk, off + i, none⟩) (by exact hb)).trans (hc i _ (flatI_at a i hx))
      have hcy := (hbel.cell (p := ⟨bk2, off2 + i, none⟩) (by exact hb2)).trans (hc2 i _ (flatI_at a i hx))
      clear hc hc2 hx
      go_wp2
      go_region
      all_goals go_wp2
      all_goals go_roundg (gk - 1)
      case measure => omega
      case rel => exact ⟨i + 1, by omega, by go_num, hbel.drew⟩
    · have hd : decide ((i : Int) < (a.length : Int)) = false := by simp; omega
      go_wp2
      go_ret
      exact ⟨rfl, hbel⟩

/-- What the comparison keeps: both cells, in blocks h and h + 1. -/
def Same2 (w : World) (h : Nat) (c : Ce) (p q : Pl) (w1 : World) : Prop := Below h w w1 ∧ Has w1 h (ceL c p) ∧ Has w1 (h + 1) (ceL c q)

theorem same2_new (w : World) (c : Ce) (p q : Pl) (t : TypeId) : Same2 w w.heap.size c p q ((w.alloc (.cells (ceL c p).toArray t)).alloc (.cells (ceL c q).toArray t)) := by
  refine ⟨((Below.refl _ _).alloc (Nat.le_refl _) _).alloc (by simp) _, (has_new _ _ _).alloc _, ?_⟩
  have := has_new (w.alloc (.cells (ceL c p).toArray t)) (ceL c q) t
  simpa using this

theorem Same2.later {w w1 w2 : World} {h : Nat} {c : Ce} {p q : Pl} (H : Same2 w h c p q w1) (hb : Below w1.heap.size w1 w2) : Same2 w h c p q w2 :=
  ⟨H.1.trans (hb.mono (by have := H.2.1.1; omega)), H.2.1.later hb, H.2.2.later hb⟩

/-- No list is longer than memory. -/
def Lens (c : Ce) : Prop := c.ents.length ≤ 140737488355328 ∧ c.elems.length ≤ 140737488355328 ∧ c.seen.length ≤ 140737488355328
theorem Fit.lens {c : Ce} (h : Fit c) : Lens c := by
  obtain ⟨f1, f2, f3, _⟩ := h
  exact ⟨by omega, by omega, by omega⟩

set_option maxHeartbeats 2000000 in
set_option maxRecDepth 100000 in
theorem sameCell_lens (c : Ce) (p q : Pl) (w : World) (hp : CRow w c p) (hq : CRow w c q) (hf : Lens c) :
    Calls Try.prog 20 #[ceV c p, ceV c q] w fun e w' => e = .returned (.bool true) ∧ Below w.heap.size w w' := by
  obtain ⟨f1, f2, f3⟩ := hf
  have H0 : Hid (Same2 w w.heap.size c p q ((w.alloc (.cells (ceL c p).toArray 30)).alloc (.cells (ceL c q).toArray 30))) := same2_new w c p q 30
  obtain ⟨h, hh⟩ : ∃ h, w.heap.size = h := ⟨_, rfl⟩
  rw [hh] at H0 ⊢
  have HR : Hid (CRow w c p ∧ CRow w c q) := ⟨hp, hq⟩
  clear hp hq
  go_enter Try.func20, Try.ntmps20
  go_wp2_with fail
  refine (sameInts_any p.so q.so p.sc q.sc c.seen _ (HR.out.1.later (hh.symm ▸ H0.out.1)).2.2 (HR.out.2.later (hh.symm ▸ H0.out.1)).2.2 (by unfold maxLen; omega)).mono ?_
  rintro e w1 ⟨rfl, b1⟩
  have H1 : Hid (Same2 w h c p q w1) := H0.out.later b1
  clear b1 H0
  go_wp2
  go_loopg [5] c.ents.length (fun n iv wr => ∃ i : Nat, i + n = c.ents.length ∧ iv = .int .i64 i ∧ Same2 w h c p q wr)
  case atStart => exact ⟨0, by omega, rfl, H1.out⟩
  case round =>
    obtain ⟨i, hin, rfl, hs⟩ := hrel
    have HS : Hid (Same2 w h c p q wr) := hs
    have t7 := HS.out.2.1.at 7 rfl
    have r7 := HS.out.2.2.at 7 rfl
    have HBel : Below w.heap.size w wr := hh.symm ▸ hs.1
    clear hs H1
    by_cases hi : i < c.ents.length
    · obtain ⟨bk, off, ea, hb, hc⟩ := HR.out.1.1 (by rw [flatE_len]; omega)
      obtain ⟨bk2, off2, eb, hb2, hc2⟩ := HR.out.2.1 (by rw [flatE_len]; omega)
      obtain ⟨⟨x0, x1, x2⟩, hx⟩ : ∃ x, c.ents[i]? = some x := ⟨_, List.getElem?_eq_getElem hi⟩
      obtain ⟨g0, g1, g2⟩ := flatE_at c.ents i hx
      rw [ea] at t7
      rw [eb] at r7
      have k0 := (HBel.cell (p := ⟨bk, off + i * 3, none⟩) (by exact hb)).trans (hc _ _ g0)
      have k1 := (HBel.cell (p := ⟨bk, off + i * 3 + 1, none⟩) (by exact hb)).trans (hc _ _ g1)
      have k2 := (HBel.cell (p := ⟨bk, off + i * 3 + 2, none⟩) (by exact hb)).trans (hc _ _ g2)
      have l0 := (HBel.cell (p := ⟨bk2, off2 + i * 3, none⟩) (by exact hb2)).trans (hc2 _ _ g0)
      have l1 := (HBel.cell (p := ⟨bk2, off2 + i * 3 + 1, none⟩) (by exact hb2)).trans (hc2 _ _ g1)
      have l2 := (HBel.cell (p := ⟨bk2, off2 + i * 3 + 2, none⟩) (by exact hb2)).trans (hc2 _ _ g2)
      clear hc hc2 hx g0 g1 g2 ea eb HBel
      go_wp2
      go_region
      all_goals go_wp2
      all_goals go_roundg (gk - 1)
      case measure => omega
      case rel => exact ⟨i + 1, by omega, by go_num, HS.out.later (Below.refl _ _).drew⟩
    · have hd : decide ((i : Int) < (c.ents.length : Int)) = false := by simp; omega
      clear t7 r7 HBel
      have t7 := HS.out.2.1.at 7 rfl
      go_wp2
      clear t7
      go_loopg [6] c.elems.length (fun n iv wr => ∃ i : Nat, i + n = c.elems.length ∧ iv = .int .i64 i ∧ Same2 w h c p q wr)
      case atStart => exact ⟨0, by omega, rfl, HS.out⟩
      case round =>
        obtain ⟨j, hjn, rfl, hs⟩ := hrel
        clear HS
        have HS : Hid (Same2 w h c p q wr) := hs
        have t8 := HS.out.2.1.at 8 rfl
        have r8 := HS.out.2.2.at 8 rfl
        have HBel : Below w.heap.size w wr := hh.symm ▸ hs.1
        clear hs
        by_cases hj : j < c.elems.length
        · obtain ⟨bk, off, ea, hb, hc⟩ := HR.out.1.2.1 (by rw [flatL_len]; omega)
          obtain ⟨bk2, off2, eb, hb2, hc2⟩ := HR.out.2.2.1 (by rw [flatL_len]; omega)
          obtain ⟨⟨x0, x1, x2, x3, x4⟩, hx⟩ : ∃ x, c.elems[j]? = some x := ⟨_, List.getElem?_eq_getElem hj⟩
          obtain ⟨g0, g1, g2, g3, g4⟩ := flatL_at c.elems j hx
          rw [ea] at t8
          rw [eb] at r8
          have k0 := (HBel.cell (p := ⟨bk, off + j * 5, none⟩) (by exact hb)).trans (hc _ _ g0)
          have k1 := (HBel.cell (p := ⟨bk, off + j * 5 + 1, none⟩) (by exact hb)).trans (hc _ _ g1)
          have k2 := (HBel.cell (p := ⟨bk, off + j * 5 + 2, none⟩) (by exact hb)).trans (hc _ _ g2)
          have k3 := (HBel.cell (p := ⟨bk, off + j * 5 + 3, none⟩) (by exact hb)).trans (hc _ _ g3)
          have k4 := (HBel.cell (p := ⟨bk, off + j * 5 + 4, none⟩) (by exact hb)).trans (hc _ _ g4)
          have l0 := (HBel.cell (p := ⟨bk2, off2 + j * 5, none⟩) (by exact hb2)).trans (hc2 _ _ g0)
          have l1 := (HBel.cell (p := ⟨bk2, off2 + j * 5 + 1, none⟩) (by exact hb2)).trans (hc2 _ _ g1)
          have l2 := (HBel.cell (p := ⟨bk2, off2 + j * 5 + 2, none⟩) (by exact hb2)).trans (hc2 _ _ g2)
          have l3 := (HBel.cell (p := ⟨bk2, off2 + j * 5 + 3, none⟩) (by exact hb2)).trans (hc2 _ _ g3)
          have l4 := (HBel.cell (p := ⟨bk2, off2 + j * 5 + 4, none⟩) (by exact hb2)).trans (hc2 _ _ g4)
          clear hc hc2 hx g0 g1 g2 g3 g4 ea eb HBel
          go_wp2
          go_region
          all_goals go_wp2
          all_goals go_roundg (gk - 1)
          case measure => omega
          case rel => exact ⟨j + 1, by omega, by go_num, HS.out.later (Below.refl _ _).drew⟩
        · have hd2 : decide ((j : Int) < (c.elems.length : Int)) = false := by simp; omega
          go_wp2
          go_ret
          exact ⟨rfl, HS.out.1⟩

theorem sameCell_any (c : Ce) (p q : Pl) (w : World) (hp : CRow w c p) (hq : CRow w c q) (hf : Fit c) :
    Calls Try.prog 20 #[ceV c p, ceV c q] w fun e w' => e = .returned (.bool true) ∧ Below w.heap.size w w' := sameCell_lens c p q w hp hq hf.lens

end Go.Proofs.Ytaakhpibdpgjpaa
