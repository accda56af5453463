/-
  The laws' own words for rows of dots: LendDots, KeptDots, SpoilDots, by contracts.
-/
import Derived.Test.YtedgobdeoheaoaaSame9
import Derived.Test.YtedgobdeoheaoaaCeSpoil
namespace Go.Proofs.Ytedgobdeoheaoaa
open Go.RowKit Go.Shelf
set_option linter.unusedVariables false
set_option linter.unusedSimpArgs false

set_option maxHeartbeats 400000 in
set_option maxRecDepth 100000 in
theorem dlend_any (ao : Option Addr) (ca : Nat) (a : List D2) (w : World) (ha : FRow w ao (flatD a)) (hla : a.length * 16 ≤ 140737488351232) :
    Calls Try.prog 9 #[.slice ao a.length ca] w fun e w' => ∃ g c, e = .returned (.slice (some ⟨g, 0, none⟩) a.length c) ∧ FRow w' (some ⟨g, 0, none⟩) (flatD (a ++ [(0, 77777), (0, 77777)])) ∧ a.length + 2 ≤ c ∧ w.heap.size ≤ g ∧ Below w.heap.size w w' := by
  have C := dcopy_any ao ca a w ha hla
  obtain ⟨h, hh⟩ : ∃ h, w.heap.size = h := ⟨_, rfl⟩
  rw [hh] at C ⊢
  have HH : Hid (w.heap.size = h) := hh
  clear ha hh
  go_enter Try.func9, Try.ntmps9
  go_wp2_with fail
  refine C.mono ?_
  rintro e w1 ⟨bo, cb, rfl, hown, hb1⟩
  have H1 : Hid (w1.ownsRow h 32 2 (.slice bo a.length cb) a.length (flatD a) ∧ Below h w w1 ∧ h ≤ w1.heap.size) := ⟨hown, hb1, by have := hb1.size; rw [HH.out] at this; exact this⟩
  clear C hown hb1
  obtain ⟨n1, hn1⟩ : ∃ n, w1.heap.size = n := ⟨_, rfl⟩
  have hn : h ≤ n1 := hn1 ▸ H1.out.2.2
  have R : Hid (FRow (w1.alloc (.cells #[.int .i64 0, .int .i64 77777, .int .i64 0, .int .i64 77777] 32)) (some ⟨n1, 0, none⟩) [.int .i64 0, .int .i64 77777, .int .i64 0, .int .i64 77777]) := frow_newAt hn1 [.int .i64 0, .int .i64 77777, .int .i64 0, .int .i64 77777] _
  have O : Hid ((w1.alloc (.cells #[.int .i64 0, .int .i64 77777, .int .i64 0, .int .i64 77777] 32)).ownsRow h 32 2 (.slice bo a.length cb) a.length (flatD a) ∧ Below h w (w1.alloc (.cells #[.int .i64 0, .int .i64 77777, .int .i64 0, .int .i64 77777] 32))) := ⟨own_later H1.out.1 ((Below.refl _ _).alloc (Nat.le_refl _) _), H1.out.2.1.trans ((Below.refl _ _).alloc (by omega) _)⟩
  clear H1
  go_upto_region 2 with (at_builtin; refine wpList_onto rfl _ _ 33 rfl Try.underlying33 Try.infoDot rfl (by decide) (by decide) (B := h) rfl rfl O.out.1 R.out rfl (fun u hu => oneD (l := [(0, 77777), (0, 77777)]) (by simpa [flatD, d2] using hu)) (by omega) (by simp; omega) ?_; intro b2 c2 w2 o2 n2 bb2; have H2 : Hid (w2.ownsRow h 32 2 (.slice b2 (a.length + 2) c2) (a.length + 2) (flatD (a ++ [(0, 77777), (0, 77777)])) ∧ Below h w w2) := ⟨by rw [flatD_append]; exact o2, O.out.2.trans bb2⟩; clear o2 n2 bb2)
  obtain ⟨g, rfl, hg, hgw, _⟩ := own_row H2.out.1 (by rw [flatD_len]; simp)
  have hc := (own_cap H2.out.1).1
  go_wp2
  go_ret
  exact ⟨g, c2, rfl, (own_row H2.out.1).row, hc, hg, H2.out.2⟩

theorem frow_headD {w : World} {ao : Option Addr} {l m : List D2} (h : FRow w ao (flatD (l ++ m))) : FRow w ao (flatD l) := fun h0 => by
  rw [flatD_len] at h0
  obtain ⟨b, off, e, hb, hc⟩ := h (by rw [flatD_len, List.length_append]; omega)
  refine ⟨b, off, e, hb, fun i u hu => hc i u ?_⟩
  rw [flatD_append, List.getElem?_append_left (List.getElem?_eq_some_iff.1 hu).1]
  exact hu

set_option maxHeartbeats 400000 in
set_option maxRecDepth 100000 in
theorem dkept_any (g c : Nat) (ao : Option Addr) (ca : Nat) (a : List D2) (w : World) (ha : FRow w ao (flatD a)) (hx : FRow w (some ⟨g, 0, none⟩) (flatD (a ++ [(0, 77777), (0, 77777)]))) (hc : a.length + 2 ≤ c) (hla : a.length * 16 ≤ 140737488351232) :
    Calls Try.prog 24 #[.slice (some ⟨g, 0, none⟩) a.length c, .slice ao a.length ca] w fun e w' => e = .returned (.bool true) ∧ Below w.heap.size w w' := by
  have hx0 := frow_headD hx
  obtain ⟨b, off, e, hb, hcell⟩ := hx (by rw [flatD_len]; simp)
  simp only [Option.some.injEq, Addr.mk.injEq, and_true] at e
  obtain ⟨rfl, rfl⟩ := e
  obtain ⟨p0, p1⟩ := flatD_at (a ++ [(0, 77777), (0, 77777)]) a.length (p := (0, 77777)) (by simp)
  obtain ⟨p2, p3⟩ := flatD_at (a ++ [(0, 77777), (0, 77777)]) (a.length + 1) (p := (0, 77777)) (by simp)
  have c0 := hcell _ _ p0
  have c1 := hcell _ _ p1
  have c2 := hcell _ _ p2
  have c3 := hcell _ _ p3
  rw [Nat.zero_add] at c0 c1 c2 c3
  have S := dsame_any (some ⟨g, 0, none⟩) ao c ca a w hx0 ha (by unfold maxLen; omega)
  clear hcell hx hx0 ha p0 p1 p2 p3
  go_enter Try.func24, Try.ntmps24
  go_wp2_with fail
  refine S.mono ?_
  rintro e w1 ⟨rfl, h1⟩
  have d0 := (h1.cell (p := ⟨g, a.length * 2, none⟩) (by exact hb)).trans c0
  have d1 := (h1.cell (p := ⟨g, a.length * 2 + 1, none⟩) (by exact hb)).trans c1
  have d2 := (h1.cell (p := ⟨g, (a.length + 1) * 2, none⟩) (by exact hb)).trans c2
  have d3 := (h1.cell (p := ⟨g, (a.length + 1) * 2 + 1, none⟩) (by exact hb)).trans c3
  clear c0 c1 c2 c3 S
  go_wp2
  go_ret
  exact ⟨rfl, h1⟩

set_option maxHeartbeats 400000 in
set_option maxRecDepth 100000 in
theorem spoilDots_any (B h : Nat) (ao : Option Addr) (ca n : Nat) (w : World) (ha : Nums B h w ao n 2 1) (hla : n ≤ maxLen) :
    Calls Try.prog 23 #[.slice ao n ca] w fun e w' => e = .returned (.tuple #[]) ∧ Below B w w' := by
  have HA : Hid (Nums B h w ao n 2 1) := ha
  clear ha
  unfold maxLen at hla
  by_cases h0 : 0 < n
  · obtain ⟨g, rfl, hB, hg, _⟩ := HA.out h0
    go_enter Try.func23, Try.ntmps23
    go_wp2
    go_loopg [2] n (fun k iv wr => ∃ i : Nat, i + k = n ∧ iv = .int .i64 i ∧ Below B w wr ∧ Nums B h wr (some ⟨g, 0, none⟩) n 2 1)
    case atStart => exact ⟨0, by omega, rfl, Below.refl _ _, HA.out⟩
    case round =>
      obtain ⟨i, hin, rfl, hbel, hnum⟩ := hrel
      have HN : Hid (Nums B h wr (some ⟨g, 0, none⟩) n 2 1) := hnum
      clear hnum
      by_cases hi : i < n
      · obtain ⟨g', e, _, _, _, h5⟩ := HN.out h0
        simp only [Option.some.injEq, Addr.mk.injEq, and_true] at e
        subst e
        obtain ⟨⟨z, hz⟩, hf⟩ := h5 i hi
        clear h5
        go_wp2
        go_roundg (gk - 1)
        case measure => omega
        case rel => exact ⟨i + 1, by omega, by go_num, hbel.setCell (p := ⟨g, i * 2 + 1, none⟩) hB _, HN.out.set _ _ _⟩
      · have hd : decide ((i : Int) < (n : Int)) = false := by simp; omega
        go_wp2
        first | go_ret | go_end0
        exact ⟨rfl, hbel⟩
  · obtain rfl : n = 0 := by omega
    go_enter Try.func23, Try.ntmps23
    go_wp2
    refine wp_loop_rounds 1 ?_
    rw [rounds_succ]
    go_wp2
    first | go_ret | go_end0
    exact ⟨rfl, Below.refl _ _⟩

/-- A row of dots of an answer's own: its second numbers. -/
theorem nums_dots {B : Nat} {w : World} {ao : Option Addr} {l : List D2} (H : FOwn B w ao (flatD l)) : Nums B w.heap.size w ao l.length 2 1 := fun h0 => by
  obtain ⟨g, h1, h2, h3, h4⟩ := H (by rw [flatD_len]; omega)
  refine ⟨g, h1, h2, h3, Nat.le_refl _, fun j hj => ?_⟩
  have := (flatD_at l j (List.getElem?_eq_getElem hj)).2
  exact ⟨⟨_, (h4 _ _ this).1⟩, (h4 _ _ this).2⟩

end Go.Proofs.Ytedgobdeoheaoaa
