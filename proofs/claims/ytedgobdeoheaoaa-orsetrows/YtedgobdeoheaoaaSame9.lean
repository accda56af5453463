/-
  Values at whatever comes; the laws' own words for rows of dots and texts: SameDots, SameTexts, CopyDots, LendDots, KeptDots, SpoilDots, by contracts.
-/
import Derived.Test.YtedgobdeoheaoaaAll9
import Derived.Test.YtedgobdeoheaoaaRefVals9
namespace Go.Proofs.Ytedgobdeoheaoaa
open Go.RowKit Go.Shelf
set_option linter.unusedVariables false
set_option linter.unusedSimpArgs false

/-- What Values answers. -/
def ansV (c : Ce) : List S8 := if decide (c.kind = 2) then setV (valsL c.ents) else []

theorem vals_all (c : Ce) (p : Pl) (w : World) (hr : CRow w c p) (hf : Fit c) :
    Calls Try.prog 14 #[ceV c p] w fun e w' => ∃ ao ca, e = .returned (.tuple #[.slice ao (ansV c).length ca, .int .i64 (numQ c)]) ∧ FOwn w.heap.size w' ao (flatS (ansV c)) ∧ Below w.heap.size w w' := by
  unfold ansV numQ
  by_cases hk : c.kind = 2
  · rw [decide_eq_true hk]
    exact vals_yes c p w hr hf (by simpa using hk)
  · rw [decide_eq_false hk]
    refine (vals_no c p w (by simpa using hk)).mono ?_
    rintro e w1 ⟨he, b⟩
    exact ⟨none, 0, he, FOwn.nil _ _ _, b⟩

theorem rvals_all (c : Ce) (p : Pl) (w : World) (hr : CRow w c p) (hf : Fit c) :
    Calls Try.prog 15 #[ceV c p] w fun e w' => ∃ ao ca, e = .returned (.tuple #[.slice ao (ansV c).length ca, .int .i64 (numQ c)]) ∧ FOwn w.heap.size w' ao (flatS (ansV c)) ∧ Below w.heap.size w w' := by
  unfold ansV numQ
  by_cases hk : c.kind = 2
  · rw [decide_eq_true hk]
    exact rvals_yes c p w hr hf (by simpa using hk)
  · rw [decide_eq_false hk]
    refine (rvals_no c p w (by simpa using hk)).mono ?_
    rintro e w1 ⟨he, b⟩
    exact ⟨none, 0, he, FOwn.nil _ _ _, b⟩

set_option maxHeartbeats 400000 in
set_option maxRecDepth 100000 in
/-- Two rows of the same dots. -/
theorem dsame_any (ao bo : Option Addr) (ca cb : Nat) (a : List D2) (w : World) (ha : FRow w ao (flatD a)) (hb : FRow w bo (flatD a)) (hla : a.length ≤ maxLen) :
    Calls Try.prog 21 #[.slice ao a.length ca, .slice bo a.length cb] w fun e w' => e = .returned (.bool true) ∧ Below w.heap.size w w' := by
  have HA : Hid (FRow w ao (flatD a)) := ha
  have HC : Hid (FRow w bo (flatD a)) := hb
  clear ha hb
  unfold maxLen at hla
  have hd0 : ((a.length : Int) != (a.length : Int)) = false := by simp
  go_enter Try.func21, Try.ntmps21
  go_wp2
  go_loopg [5] a.length (fun n iv wr => ∃ i : Nat, i + n = a.length ∧ iv = .int .i64 i ∧ Below w.heap.size w wr)
  case atStart => exact ⟨0, by omega, rfl, Below.refl _ _⟩
  case round =>
    obtain ⟨i, hin, rfl, hbel⟩ := hrel
    by_cases hi : i < a.length
    · obtain ⟨bk, off, rfl, hb, hc⟩ := HA.out (by rw [flatD_len]; omega)
      obtain ⟨bk2, off2, rfl, hb2, hc2⟩ := HC.out (by rw [flatD_len]; omega)
      obtain ⟨x, hx⟩ : ∃ x, a[i]? = some x := ⟨_, List.getElem?_eq_getElem hi⟩
      obtain ⟨g0, g1⟩ := flatD_at a i hx
      have hx1 := (hbel.cell (p := ⟨bk, off + i * 2, none⟩) (by exact hb)).trans (hc _ _ g0)
      have hx2 := (hbel.cell (p := ⟨bk, off + i * 2 + 1, none⟩) (by exact hb)).trans (hc _ _ g1)
      have hy1 := (hbel.cell (p := ⟨bk2, off2 + i * 2, none⟩) (by exact hb2)).trans (hc2 _ _ g0)
      have hy2 := (hbel.cell (p := ⟨bk2, off2 + i * 2 + 1, none⟩) (by exact hb2)).trans (hc2 _ _ g1)
      obtain ⟨x1, x2⟩ := x
      clear hc hc2 hx g0 g1
      go_wp2
      go_region
      all_goals go_wp2
      all_goals go_roundg (gk - 1)
      case measure => omega
      case rel => exact ⟨i + 1, by omega, by go_num, hbel.drew⟩
    · have hd : decide ((i : Int) < (a.length : Int)) = false := by simp; omega
      go_wp2
      go_ret
      exact ⟨rfl, hbel⟩

set_option maxHeartbeats 400000 in
set_option maxRecDepth 100000 in
/-- Two rows of the same texts. -/
theorem tsame_any (ao bo : Option Addr) (ca cb : Nat) (a : List S8) (w : World) (ha : FRow w ao (flatS a)) (hb : FRow w bo (flatS a)) (hla : a.length ≤ maxLen) :
    Calls Try.prog 20 #[.slice ao a.length ca, .slice bo a.length cb] w fun e w' => e = .returned (.bool true) ∧ Below w.heap.size w w' := by
  have HA : Hid (FRow w ao (flatS a)) := ha
  have HC : Hid (FRow w bo (flatS a)) := hb
  clear ha hb
  unfold maxLen at hla
  have hd0 : ((a.length : Int) != (a.length : Int)) = false := by simp
  go_enter Try.func20, Try.ntmps20
  go_wp2
  go_loopg [5] a.length (fun n iv wr => ∃ i : Nat, i + n = a.length ∧ iv = .int .i64 i ∧ Below w.heap.size w wr)
  case atStart => exact ⟨0, by omega, rfl, Below.refl _ _⟩
  case round =>
    obtain ⟨i, hin, rfl, hbel⟩ := hrel
    by_cases hi : i < a.length
    · obtain ⟨bk, off, rfl, hb, hc⟩ := HA.out (by rw [flatS_len]; omega)
      obtain ⟨bk2, off2, rfl, hb2, hc2⟩ := HC.out (by rw [flatS_len]; omega)
      obtain ⟨x, hx⟩ : ∃ x, a[i]? = some x := ⟨_, List.getElem?_eq_getElem hi⟩
      have hx1 := (hbel.cell (p := ⟨bk, off + i, none⟩) (by exact hb)).trans (hc _ _ (flatS_at hx))
      have hy1 := (hbel.cell (p := ⟨bk2, off2 + i, none⟩) (by exact hb2)).trans (hc2 _ _ (flatS_at hx))
      generalize (⟨x.toArray⟩ : ByteArray) = y at *
      clear hc hc2 hx
      go_wp2
      go_region
      all_goals go_wp2
      all_goals go_roundg (gk - 1)
      case measure => omega
      case rel => exact ⟨i + 1, by omega, by go_num, hbel.drew⟩
    · have hd : decide ((i : Int) < (a.length : Int)) = false := by simp; omega
      go_wp2
      go_ret
      exact ⟨rfl, hbel⟩

set_option maxHeartbeats 400000 in
set_option maxRecDepth 100000 in
theorem dcopy_any (ao : Option Addr) (ca : Nat) (a : List D2) (w : World) (ha : FRow w ao (flatD a)) (hla : a.length * 16 ≤ 140737488351232) :
    Calls Try.prog 28 #[.slice ao a.length ca] w fun e w' => ∃ bo c, e = .returned (.slice bo a.length c) ∧ w'.ownsRow w.heap.size 32 2 (.slice bo a.length c) a.length (flatD a) ∧ Below w.heap.size w w' := by
  obtain ⟨h, hh⟩ : ∃ h, w.heap.size = h := ⟨_, rfl⟩
  have K : Hid (FRow (w.alloc (.cells #[] 32)) ao (flatD a)) := ha.later ((Below.refl w.heap.size w).alloc (Nat.le_refl _) _)
  have O : Hid ((w.alloc (.cells #[] 32)).ownsRow h 32 2 (.slice (some ⟨h, 0, none⟩) 0 0) 0 []) := own_empty hh
  have HB : Hid (Below h w (w.alloc (.cells #[] 32))) := (Below.refl _ _).alloc (by omega) _
  have hld : (flatD a).length = a.length * 2 := flatD_len a
  rw [hh]
  clear ha
  go_enter Try.func28, Try.ntmps28
  go_wp2_with (at_builtin; refine wpList_onto rfl _ _ 33 rfl Try.underlying33 Try.infoDot rfl (by decide) (by decide) (B := h) rfl rfl O.out K.out hld (fun u hu => oneD hu) (by omega) (by simp; omega) ?_; intro bo cb w1 o1 n1 b1; simp only [Nat.zero_add, List.nil_append] at o1 ⊢; have O1 : Hid (w1.ownsRow h 32 2 (.slice bo a.length cb) a.length (flatD a) ∧ Below h w w1) := ⟨o1, HB.out.trans b1⟩; clear o1 n1 b1)
  go_ret
  exact ⟨_, _, rfl, O1.out.1, O1.out.2⟩

end Go.Proofs.Ytedgobdeoheaoaa
