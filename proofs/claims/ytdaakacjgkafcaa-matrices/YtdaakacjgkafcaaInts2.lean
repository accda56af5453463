/-
  The laws' own words for rows of numbers once more: what LendInts gives is its caller's own; what SpoilInts turns is one block.
-/
import Derived.Test.YtdaakacjgkafcaaInts
import Derived.Test.YtdaakacjgkafcaaKept
namespace Go.Proofs.Ytdaakacjgkafcaa
open Go.RowKit
set_option linter.unusedVariables false

theorem own_head {B : Nat} {w : World} {ao : Option Addr} {a m : List Int} (h : OwnAt B w ao (a ++ m)) : OwnAt B w ao a := fun h0 => by
  obtain ⟨b, off, h1, hB, h2, h3⟩ := h (by simp; omega)
  refine ⟨b, off, h1, hB, h2, fun i hi => ?_⟩
  have := h3 i (by simp; omega)
  refine ⟨?_, this.2⟩
  rw [this.1]
  simp [List.getD, List.getElem?_append_left hi]

set_option maxHeartbeats 400000 in
set_option maxRecDepth 100000 in
theorem lend_own (ao : Option Addr) (ca : Nat) (a : List Int) (w : World) (ha : RowAt w ao a) (hla : a.length * 8 ≤ 140737488351232) :
    Calls Try.prog 11 #[.slice ao a.length ca] w fun e w' => ∃ g c, e = .returned (.slice (some ⟨g, 0, none⟩) a.length c) ∧ OwnAt w.heap.size w' (some ⟨g, 0, none⟩) (a ++ [-7777, -8888]) ∧ a.length + 2 ≤ c ∧ w.heap.size ≤ g ∧ g < w'.heap.size ∧ Below w.heap.size w w' := by
  have C := copy_any ao ca a w ha hla
  go_enter Try.func11, Try.ntmps11
  go_wp2_with fail
  refine C.mono ?_
  rintro e w1 ⟨g, c, rfl, hown, hb1⟩
  clear C ha
  have R : RowAt (w1.alloc (.cells #[.int .i64 (-7777), .int .i64 (-8888)] 3)) (some ⟨w1.heap.size, 0, none⟩) [-7777, -8888] := fun _ => by
    refine ⟨w1.heap.size, 0, rfl, by simp, fun i hi => ?_⟩
    match i, hi with
    | 0, _ => simp [World.cell?_alloc_at]
    | 1, _ => simp [World.cell?_alloc_at]
  have hs1 := hb1.size
  have hown2 := hown.alloc (.cells #[.int .i64 (-7777), .int .i64 (-8888)] 3)
  go_wp2_with (at_builtin; refine wpList_append_row rfl _ _ rfl (l := a) (m := [-7777, -8888]) rfl rfl rfl hown2 R (by simp; omega) (by simp; omega) ?_; intro g' c' w' hown' hbel'; obtain ⟨hrow, hcap, hg1, hg2⟩ := lent_row rfl hown' (by simp); simp only [List.length_append, List.length_cons, List.length_nil] at hcap)
  go_ret
  refine ⟨g', c', rfl, ?_, by omega, hg1, hg2, hb1.trans (((Below.refl w.heap.size w1).alloc hs1 _).trans hbel')⟩
  obtain ⟨ao2, cap2, e2, hO⟩ := own_at hown'
  simp only [Value.slice.injEq] at e2
  obtain ⟨rfl, _, rfl⟩ := e2
  exact hO

set_option maxHeartbeats 400000 in
set_option maxRecDepth 100000 in
theorem spoil_one (B : Nat) (ao : Option Addr) (ca : Nat) (a : List Int) (w : World) (ha : OwnAt B w ao a) (hla : a.length ≤ maxLen) :
    Calls Try.prog 15 #[.slice ao a.length ca] w fun e w' => e = .returned (.tuple #[]) ∧ Kept (fun k => 0 < a.length ∧ ∃ off, ao = some ⟨k, off, none⟩) w w' := by
  have HA : Hid (OwnAt B w ao a) := ha
  clear ha
  unfold maxLen at hla
  by_cases h0 : 0 < a.length
  · obtain ⟨g, off, rfl, hB, hg, hc⟩ := HA.out h0
    go_enter Try.func15, Try.ntmps15
    go_wp2
    go_loopg [2] a.length (fun n iv wr => ∃ i : Nat, i + n = a.length ∧ iv = .int .i64 i ∧ Kept (fun k => 0 < a.length ∧ ∃ o, some (⟨g, off, none⟩ : Addr) = some ⟨k, o, none⟩) w wr ∧ (∀ j, i ≤ j → j < a.length → wr.cell? ⟨g, off + j, none⟩ = some (.int .i64 (a.getD j 0))) ∧ (∀ j, j < a.length → wr.frozen? ⟨g, off + j, none⟩ = false))
    case atStart => exact ⟨0, by omega, rfl, Kept.refl _ _, fun j _ hj => (hc j hj).1, fun j hj => (hc j hj).2⟩
    case round =>
      clear hc
      obtain ⟨i, hin, rfl, hbut, hz, hfr⟩ := hrel
      by_cases hi : i < a.length
      · have kc := hz i (Nat.le_refl _) hi
        have kf := hfr i hi
        obtain ⟨x, hx⟩ : ∃ x, x = a.getD i 0 := ⟨_, rfl⟩
        rw [← hx] at kc
        have HZ : Hid ((∀ j, i ≤ j → j < a.length → wr.cell? ⟨g, off + j, none⟩ = some (.int .i64 (a.getD j 0))) ∧ (∀ j, j < a.length → wr.frozen? ⟨g, off + j, none⟩ = false) ∧ Kept (fun k => 0 < a.length ∧ ∃ o, some (⟨g, off, none⟩ : Addr) = some ⟨k, o, none⟩) w wr) := ⟨hz, hfr, hbut⟩
        clear hx hz hfr hbut
        go_wp2
        go_roundg (gk - 1)
        case measure => omega
        case rel =>
          refine ⟨i + 1, by omega, by go_num, HZ.out.2.2.set (p := ⟨g, off + i, none⟩) ⟨h0, off, rfl⟩ _, fun j hj hj2 => ?_, fun j hj => ?_⟩
          · rw [World.cell?_setCell_other _ _ _ _ (by first | (simp; done) | (simp; omega))]
            exact HZ.out.1 j (by omega) hj2
          · rw [World.frozen?_setCell]; exact HZ.out.2.1 j hj
      · have hd : decide ((i : Int) < (a.length : Int)) = false := by simp; omega
        have HZ : Hid (Kept (fun k => 0 < a.length ∧ ∃ o, some (⟨g, off, none⟩ : Addr) = some ⟨k, o, none⟩) w wr) := hbut
        clear hz hfr hbut
        go_wp2
        first | go_ret | go_end0
        exact ⟨rfl, HZ.out⟩
  · have hn : a = [] := List.eq_nil_of_length_eq_zero (by omega)
    subst hn
    go_enter Try.func15, Try.ntmps15
    go_wp2
    refine wp_loop_rounds 1 ?_
    rw [rounds_succ]
    go_wp2
    first | go_ret | go_end0
    exact ⟨rfl, Kept.refl _ _⟩

end Go.Proofs.Ytdaakacjgkafcaa
