/-
  The laws' own words for rows of numbers: SameInts, SpoilInts, CopyInts, LendInts, KeptInts, by contracts.
-/
import Derived.Test.YtdaakacjgkafcaaIntAppend
import Derived.Deep.LoopGhost
import Derived.OwnWalk
namespace Go.Proofs.Ytdaakacjgkafcaa
open Go.RowKit
set_option linter.unusedVariables false

theorem ints_same {l m : List Int} (hl : l.length = m.length) (h : ∀ i, i < l.length → l.getD i 0 = m.getD i 0) : l = m := by
  apply List.ext_getElem hl
  intro i h1 h2
  have := h i h1
  simpa [List.getD, h1, h2] using this

set_option maxHeartbeats 400000 in
set_option maxRecDepth 100000 in
theorem same_any (ao bo : Option Addr) (ca cb : Nat) (a b : List Int) (w : World) (ha : RowAt w ao a) (hb : RowAt w bo b) (hla : a.length ≤ maxLen) {r : Bool} (h : r = true ↔ a = b) :
    Calls Try.prog 16 #[.slice ao a.length ca, .slice bo b.length cb] w fun e w' => e = .returned (.bool r) ∧ Below w.heap.size w w' ∧ w'.heap.size = w.heap.size := by
  have HB : Hid (r = true ↔ a = b) := h
  have HA : Hid (RowAt w ao a) := ha
  have HC : Hid (RowAt w bo b) := hb
  clear h ha hb
  unfold maxLen at hla
  by_cases hl : a.length = b.length
  · have hd0 : ((a.length : Int) != (b.length : Int)) = false := by simp; omega
    have HL : Hid (a.length = b.length) := hl
    clear hl
    go_enter Try.func16, Try.ntmps16
    go_wp2
    go_loopg [5] a.length (fun n iv wr => ∃ i : Nat, i + n = a.length ∧ iv = .int .i64 i ∧ (∀ j, j < i → a.getD j 0 = b.getD j 0) ∧ Below w.heap.size w wr ∧ wr.heap.size = w.heap.size)
    case atStart => exact ⟨0, by omega, rfl, fun j hj => by omega, Below.refl _ _, rfl⟩
    case round =>
      obtain ⟨i, hin, rfl, hj, hbel, hsz⟩ := hrel
      have HJ : Hid (∀ j, j < i → a.getD j 0 = b.getD j 0) := hj
      have HS : Hid (wr.heap.size = w.heap.size) := hsz
      clear hj hsz
      by_cases hi : i < a.length
      · obtain ⟨bk, off, rfl, hb, hc⟩ := HA.out (by omega)
        obtain ⟨bk2, off2, rfl, hb2, hc2⟩ := HC.out (by have := HL.out; omega)
        have hi2 : i < b.length := by have := HL.out; omega
        have hcx := (hbel.cell (p := ⟨bk, off + i, none⟩) (by exact hb)).trans (hc i hi)
        have hcy := (hbel.cell (p := ⟨bk2, off2 + i, none⟩) (by exact hb2)).trans (hc2 i hi2)
        obtain ⟨x, hx⟩ : ∃ x, x = a.getD i 0 := ⟨_, rfl⟩
        obtain ⟨y, hy⟩ : ∃ y, y = b.getD i 0 := ⟨_, rfl⟩
        rw [← hx] at hcx
        rw [← hy] at hcy
        have HXY : Hid (x = a.getD i 0 ∧ y = b.getD i 0) := ⟨hx, hy⟩
        clear hc hc2 hx hy
        by_cases hok : x = y
        · subst hok
          have hd : (x != x) = false := by simp
          go_wp2
          go_region
          all_goals go_wp2
          all_goals go_roundg (gk - 1)
          case measure => omega
          case rel =>
            refine ⟨i + 1, by omega, by go_num, fun j hj => ?_, hbel.drew, HS.out⟩
            by_cases e : j = i
            · subst e; rw [← HXY.out.1, ← HXY.out.2]
            · exact HJ.out j (by omega)
        · have hbf : r = false := by
            cases r with
            | false => rfl
            | true => exact absurd (HB.out.1 rfl) (fun h => hok (by rw [HXY.out.1, HXY.out.2, h]))
          subst hbf
          have hd : (x != y) = true := by simpa using hok
          go_wp2
          go_region
          all_goals go_wp2
          all_goals go_ret
          all_goals exact ⟨rfl, hbel.drew, HS.out⟩
      · have hbt : r = true := HB.out.2 (ints_same HL.out fun j hj => HJ.out j (by omega))
        subst hbt
        have hd : decide ((i : Int) < (a.length : Int)) = false := by simp; omega
        go_wp2
        go_ret
        exact ⟨rfl, hbel, HS.out⟩
  · have hbf : r = false := by
      cases r with
      | false => rfl
      | true => exact absurd (congrArg List.length (HB.out.1 rfl)) hl
    subst hbf
    have hd0 : ((a.length : Int) != (b.length : Int)) = true := by simp; omega
    go_enter Try.func16, Try.ntmps16
    go_wp2
    go_ret
    exact ⟨rfl, Below.refl _ _, rfl⟩

/-- Only block g may have turned. -/
def But (g : Nat) (w w' : World) : Prop := w'.heap.size = w.heap.size ∧ ∀ b o, b ≠ g → w'.cell? ⟨b, o, none⟩ = w.cell? ⟨b, o, none⟩ ∧ w'.frozen? ⟨b, o, none⟩ = w.frozen? ⟨b, o, none⟩

theorem RowAt.but {w w' : World} {ao : Option Addr} {l : List Int} {g : Nat} (h : RowAt w ao l) (hb : But g w w') (hne : ∀ b off, ao = some ⟨b, off, none⟩ → b ≠ g) : RowAt w' ao l := fun h0 => by
  obtain ⟨b, off, h1, h2, h3⟩ := h h0
  exact ⟨b, off, h1, by rw [hb.1]; exact h2, fun i hi => ((hb.2 b _ (hne b off h1)).1).trans (h3 i hi)⟩

theorem OwnAt.but {B : Nat} {w w' : World} {ao : Option Addr} {l : List Int} {g : Nat} (h : OwnAt B w ao l) (hb : But g w w') (hg : g < B) : OwnAt B w' ao l := fun h0 => by
  obtain ⟨b, off, h1, hB, h2, h3⟩ := h h0
  exact ⟨b, off, h1, hB, by rw [hb.1]; exact h2, fun i hi => ⟨((hb.2 b _ (by omega)).1).trans (h3 i hi).1, ((hb.2 b _ (by omega)).2).trans (h3 i hi).2⟩⟩

set_option maxHeartbeats 400000 in
set_option maxRecDepth 100000 in
theorem spoil_any (B : Nat) (ao : Option Addr) (ca : Nat) (a : List Int) (w : World) (ha : OwnAt B w ao a) (hla : a.length ≤ maxLen) :
    Calls Try.prog 15 #[.slice ao a.length ca] w fun e w' => e = .returned (.tuple #[]) ∧ Below B w w' ∧ w'.heap.size = w.heap.size ∧ (w' = w ∨ ∃ g off, 0 < a.length ∧ ao = some ⟨g, off, none⟩ ∧ B ≤ g ∧ g < w.heap.size ∧ But g w w') := by
  have HA : Hid (OwnAt B w ao a) := ha
  clear ha
  unfold maxLen at hla
  by_cases h0 : 0 < a.length
  · obtain ⟨g, off, rfl, hB, hg, hc⟩ := HA.out h0
    go_enter Try.func15, Try.ntmps15
    go_wp2
    go_loopg [2] a.length (fun n iv wr => ∃ i : Nat, i + n = a.length ∧ iv = .int .i64 i ∧ Below B w wr ∧ But g w wr ∧ (∀ j, i ≤ j → j < a.length → wr.cell? ⟨g, off + j, none⟩ = some (.int .i64 (a.getD j 0))) ∧ (∀ j, j < a.length → wr.frozen? ⟨g, off + j, none⟩ = false))
    case atStart => exact ⟨0, by omega, rfl, Below.refl _ _, ⟨rfl, fun _ _ _ => ⟨rfl, rfl⟩⟩, fun j _ hj => (hc j hj).1, fun j hj => (hc j hj).2⟩
    case round =>
      clear hc
      obtain ⟨i, hin, rfl, hbel, hbut, hz, hfr⟩ := hrel
      by_cases hi : i < a.length
      · have kc := hz i (Nat.le_refl _) hi
        have kf := hfr i hi
        obtain ⟨x, hx⟩ : ∃ x, x = a.getD i 0 := ⟨_, rfl⟩
        rw [← hx] at kc
        have HZ : Hid ((∀ j, i ≤ j → j < a.length → wr.cell? ⟨g, off + j, none⟩ = some (.int .i64 (a.getD j 0))) ∧ (∀ j, j < a.length → wr.frozen? ⟨g, off + j, none⟩ = false) ∧ But g w wr) := ⟨hz, hfr, hbut⟩
        clear hx hz hfr hbut
        go_wp2
        go_roundg (gk - 1)
        case measure => omega
        case rel =>
          refine ⟨i + 1, by omega, by go_num, hbel.setCell (p := ⟨g, off + i, none⟩) hB _, ⟨?_, fun b o hb => ⟨?_, ?_⟩⟩, fun j hj hj2 => ?_, fun j hj => ?_⟩
          · simp; exact HZ.out.2.2.1
          · rw [World.cell?_setCell_other _ _ _ _ (by first | (simp; done) | (simp; intro e; exact absurd e.symm hb))]
            exact (HZ.out.2.2.2 b o hb).1
          · rw [World.frozen?_setCell]; exact (HZ.out.2.2.2 b o hb).2
          · rw [World.cell?_setCell_other _ _ _ _ (by first | (simp; done) | (simp; omega))]
            exact HZ.out.1 j (by omega) hj2
          · rw [World.frozen?_setCell]; exact HZ.out.2.1 j hj
      · have hd : decide ((i : Int) < (a.length : Int)) = false := by simp; omega
        have HZ : Hid (But g w wr) := hbut
        clear hz hfr hbut
        go_wp2
        first | go_ret | go_end0
        exact ⟨rfl, hbel, HZ.out.1, Or.inr ⟨g, off, h0, rfl, hB, hg, HZ.out⟩⟩
  · have hn : a = [] := List.eq_nil_of_length_eq_zero (by omega)
    subst hn
    go_enter Try.func15, Try.ntmps15
    go_wp2
    refine wp_loop_rounds 1 ?_
    rw [rounds_succ]
    go_wp2
    first | go_ret | go_end0
    exact ⟨rfl, Below.refl _ _, rfl, Or.inl rfl⟩

set_option maxHeartbeats 400000 in
set_option maxRecDepth 100000 in
theorem copy_any (ao : Option Addr) (ca : Nat) (a : List Int) (w : World) (ha : RowAt w ao a) (hla : a.length * 8 ≤ 140737488351232) :
    Calls Try.prog 19 #[.slice ao a.length ca] w fun e w' => ∃ g c, e = .returned (.slice (some ⟨g, 0, none⟩) a.length c) ∧ w'.ownsRow w.heap.size 3 1 (.slice (some ⟨g, 0, none⟩) a.length c) a.length (a.map (.int .i64)) ∧ Below w.heap.size w w' := by
  have K := fun (o : Obj) => ha.later ((Below.refl w.heap.size w).alloc (Nat.le_refl _) o)
  have O : (w.alloc (.cells #[] 3)).ownsRow w.heap.size 3 1 (.slice (some ⟨w.heap.size, 0, none⟩) 0 0) ([] : List Int).length (([] : List Int).map (.int .i64)) := by
    simpa using World.ownsRow_lit w #[] 0 (base := w.heap.size) (e := 3) (size := 1) (Nat.le_refl _) (by simp) (by simp)
  go_enter Try.func19, Try.ntmps19
  go_wp2_with (at_builtin; refine wpList_append_row rfl _ _ rfl (l := []) rfl rfl rfl O (K _) (by simp; omega) (by simp) ?_; intro g' c' w' hown' hbel')
  go_ret
  simp only [List.nil_append] at *
  exact ⟨g', c', rfl, hown', (((Below.refl w.heap.size w).alloc (Nat.le_refl _) _)).trans hbel'⟩

theorem lent_row {B g c n : Nat} {w : World} {l : List Int} (hn : n = l.length) (h : w.ownsRow B 3 1 (.slice (some ⟨g, 0, none⟩) n c) l.length (l.map (.int .i64))) (h0 : 0 < l.length) : RowAt w (some ⟨g, 0, none⟩) l ∧ l.length ≤ c ∧ B ≤ g ∧ g < w.heap.size := by
  subst hn
  obtain ⟨ao, cap, e, hO⟩ := own_at h
  simp only [Value.slice.injEq] at e
  obtain ⟨rfl, _, rfl⟩ := e
  refine ⟨hO.row, ?_, ?_, ?_⟩
  · rcases h.2 with ⟨e, _⟩ | ⟨g1, c1, cur, e, _, _, hn, _⟩
    · simp at e
    · simp only [Value.slice.injEq] at e; omega
  · exact (h.lt g rfl).1
  · exact (h.lt g rfl).2

set_option maxHeartbeats 400000 in
set_option maxRecDepth 100000 in
theorem lend_any (ao : Option Addr) (ca : Nat) (a : List Int) (w : World) (ha : RowAt w ao a) (hla : a.length * 8 ≤ 140737488351232) :
    Calls Try.prog 11 #[.slice ao a.length ca] w fun e w' => ∃ g c, e = .returned (.slice (some ⟨g, 0, none⟩) a.length c) ∧ RowAt w' (some ⟨g, 0, none⟩) (a ++ [-7777, -8888]) ∧ a.length + 2 ≤ c ∧ w.heap.size ≤ g ∧ Below w.heap.size w w' := by
  have C := copy_any ao ca a w ha hla
  go_enter Try.func11, Try.ntmps11
  go_wp2_with fail
  refine C.mono ?_
  rintro e w1 ⟨g, c, rfl, hown, hb1⟩
  clear C ha
  have R : RowAt (w1.alloc (.cells #[.int .i64 (-7777), .int .i64 (-8888)] 3)) (some ⟨w1.heap.size, 0, none⟩) [-7777, -8888] := fun _ => by
    refine ⟨w1.heap.size, 0, rfl, by simp, fun i hi => ?_⟩
    match i, hi with
    | 0, _ => simp [World.cell?_alloc_at]
    | 1, _ => simp [World.cell?_alloc_at]
  have hs1 := hb1.size
  have hown2 := hown.alloc (.cells #[.int .i64 (-7777), .int .i64 (-8888)] 3)
  go_wp2_with (at_builtin; refine wpList_append_row rfl _ _ rfl (l := a) (m := [-7777, -8888]) rfl rfl rfl hown2 R (by simp; omega) (by simp; omega) ?_; intro g' c' w' hown' hbel'; obtain ⟨hrow, hcap, hg1, hg2⟩ := lent_row rfl hown' (by simp); simp only [List.length_append, List.length_cons, List.length_nil] at hcap)
  go_ret
  exact ⟨g', c', rfl, hrow, by omega, hg1, hb1.trans (((Below.refl w.heap.size w1).alloc hs1 _).trans hbel')⟩

set_option maxHeartbeats 400000 in
set_option maxRecDepth 100000 in
theorem kept_any (g c : Nat) (ao : Option Addr) (ca : Nat) (a : List Int) (w : World) (ha : RowAt w ao a) (hx : RowAt w (some ⟨g, 0, none⟩) (a ++ [-7777, -8888])) (hc : a.length + 2 ≤ c) (hla : a.length * 8 ≤ 140737488351232) :
    Calls Try.prog 14 #[.slice (some ⟨g, 0, none⟩) a.length c, .slice ao a.length ca] w fun e w' => e = .returned (.bool true) ∧ Below w.heap.size w w' ∧ w'.heap.size = w.heap.size := by
  obtain ⟨b, off, e, hb, hcell⟩ := hx (by simp)
  simp only [Option.some.injEq, Addr.mk.injEq, and_true] at e
  obtain ⟨rfl, rfl⟩ := e
  have hx0 : RowAt w (some ⟨g, 0, none⟩) a := fun h0 => ⟨g, 0, rfl, hb, fun i hi => by
    rw [hcell i (by simp; omega)]
    simp [List.getD, List.getElem?_append_left hi]⟩
  have hc1 : w.cell? ⟨g, a.length, none⟩ = some (.int .i64 (-7777)) := by
    have := hcell a.length (by simp)
    simpa [List.getD] using this
  have hc2 : w.cell? ⟨g, a.length + 1, none⟩ = some (.int .i64 (-8888)) := by
    have := hcell (a.length + 1) (by simp)
    rw [Nat.zero_add] at this
    rw [this]
    simp [List.getD]
  have S := same_any (some ⟨g, 0, none⟩) ao c ca a a w hx0 ha (by unfold maxLen; omega) (r := true) (by simp)
  clear hcell hx hx0 ha
  go_enter Try.func14, Try.ntmps14
  go_wp2_with fail
  refine S.mono ?_
  rintro e w1 ⟨rfl, h1, hs⟩
  have hd1 : w1.cell? ⟨g, a.length, none⟩ = some (.int .i64 (-7777)) := (h1.cell (by exact hb)).trans hc1
  have hd2 : w1.cell? ⟨g, a.length + 1, none⟩ = some (.int .i64 (-8888)) := (h1.cell (by exact hb)).trans hc2
  have HS : Hid (w1.heap.size = w.heap.size) := hs
  clear hc1 hc2 S hs
  go_wp2
  go_ret
  exact ⟨rfl, h1, HS.out⟩

end Go.Proofs.Ytdaakacjgkafcaa
