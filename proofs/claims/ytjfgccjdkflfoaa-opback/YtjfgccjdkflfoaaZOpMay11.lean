/-
  Package op's May and Kind, by contracts.
-/
import Derived.Test.YtjfgccjdkflfoaaZWhatA11
import Derived.Test.YtjfgccjdkflfoaaZWhatB11
import Derived.Deep.Cut
import Derived.Deep.CutRange
namespace Go.Proofs.Ytjfgccjdkflfoaa
open Go.RowKit
set_option linter.unusedVariables false
set_option linter.unusedSimpArgs false

theorem what_any (o : O14) (q : Pq) (w : World) (hr : ORow w o q) (hs : Siz o) : Calls Try.prog 37 #[oV o q] w fun e w' => e = .returned (.bool (whatB o)) ∧ Below w.heap.size w w' := by
  obtain ⟨dn, ds, time, deps, kind, ty, idd, field, value, re, im, rn, rs, dots⟩ := o
  have hk : kind = 0 ∨ kind = 1 ∨ kind = 2 ∨ kind = 3 ∨ kind = 4 ∨ kind = 5 ∨ ¬ (0 ≤ kind ∧ kind ≤ 5) := by omega
  rcases hk with rfl | rfl | rfl | rfl | rfl | rfl | hk
  · exact what_0 _ _ _ _ _ _ _ _ _ _ _ _ _ _ _ hr hs
  · exact what_1 _ _ _ _ _ _ _ _ _ _ _ _ _ _ _ hr hs
  · exact what_2 _ _ _ _ _ _ _ _ _ _ _ _ _ _ _ hr hs
  · exact what_3 _ _ _ _ _ _ _ _ _ _ _ _ _ _ _ hr hs
  · exact what_4 _ _ _ _ _ _ _ _ _ _ _ _ _ _ _ hr hs
  · exact what_5 _ _ _ _ _ _ _ _ _ _ _ _ _ _ _ hr hs
  · exact what_x _ _ _ _ _ _ _ _ _ _ _ _ _ _ _ _ hr hs hk

set_option maxHeartbeats 1000000 in
set_option maxRecDepth 100000 in
theorem omay_any (o : O14) (q : Pq) (n : Int) (w : World) (hr : ORow w o q) (hs : Siz o) : Calls Try.prog 16 #[oV o q, .int .i64 n] w fun e w' => e = .returned (.bool (mayO o n)) ∧ Below w.heap.size w w' := by
  obtain ⟨h, hh⟩ : ∃ h, w.heap.size = h := ⟨_, rfl⟩
  have H0 : Hid (OBox w h o q (w.alloc (.cells (oL o q).toArray 29)) ∧ (w.alloc (.cells (oL o q).toArray 29)).heap.size = h + 1) := obox_new hh hr _
  rw [hh]
  clear hr
  have HS : Hid (Siz o) := hs
  clear hs
  go_enter Try.func16, Try.ntmps16
  go_wp2_with fail
  generalize hW : w.alloc (.cells (oL o q).toArray 29) = w1 at H0 ⊢
  clear hW hh
  obtain ⟨g0, g1, g2, g3, g4, g5, g6, g7, g8, g9, g10, g11, g12, g13⟩ := (show Has w1 h (oL o q) from H0.out.1.1).f14
  have A1 : Hid (mayO o n = (whenB o n && whereB o && whatB o)) := rfl
  cases h1 : whenB o n with
  | false =>
    go_wp2_with (go_at_call 35; refine (when_any o q n _ H0.out.1.2.1).mono ?_; rintro e w2 ⟨rfl, b2⟩)
    go_ret
    exact ⟨ret_bool (by rw [A1.out, h1]; rfl), (H0.out.1.later b2).2.2.1⟩
  | true =>
    cases h2 : whereB o with
    | false =>
      go_wp2_with (first | (go_at_call 35; refine (when_any o q n _ H0.out.1.2.1).mono ?_; rintro e w2 ⟨rfl, b2⟩; have H2 : Hid (OBox w h o q w2) := H0.out.1.later b2; clear g0 g1 g2 g3 g4 g5 g6 g7 g8 g9 g10 g11 g12 g13; obtain ⟨g0, g1, g2, g3, g4, g5, g6, g7, g8, g9, g10, g11, g12, g13⟩ := (show Has w2 h (oL o q) from H2.out.1).f14) | (go_at_call 36; refine (where_any o q _ H2.out.2.1 HS.out).mono ?_; rintro e w3 ⟨rfl, b3⟩))
      go_ret
      exact ⟨ret_bool (by rw [A1.out, h1, h2]; rfl), (H2.out.later b3).2.2.1⟩
    | true =>
      go_wp2_with (first | (go_at_call 35; refine (when_any o q n _ H0.out.1.2.1).mono ?_; rintro e w2 ⟨rfl, b2⟩; have H2 : Hid (OBox w h o q w2) := H0.out.1.later b2; clear g0 g1 g2 g3 g4 g5 g6 g7 g8 g9 g10 g11 g12 g13; obtain ⟨g0, g1, g2, g3, g4, g5, g6, g7, g8, g9, g10, g11, g12, g13⟩ := (show Has w2 h (oL o q) from H2.out.1).f14) | (go_at_call 36; refine (where_any o q _ H2.out.2.1 HS.out).mono ?_; rintro e w3 ⟨rfl, b3⟩; have H3 : Hid (OBox w h o q w3) := H2.out.later b3; clear g0 g1 g2 g3 g4 g5 g6 g7 g8 g9 g10 g11 g12 g13; obtain ⟨g0, g1, g2, g3, g4, g5, g6, g7, g8, g9, g10, g11, g12, g13⟩ := (show Has w3 h (oL o q) from H3.out.1).f14) | (go_at_call 37; refine (what_any o q _ H3.out.2.1 HS.out).mono ?_; rintro e w4 ⟨rfl, b4⟩))
      go_ret
      exact ⟨ret_bool (by rw [A1.out, h1, h2]; rfl), (H3.out.later b4).2.2.1⟩

set_option maxHeartbeats 1000000 in
set_option maxRecDepth 100000 in
theorem okind_any (o : O14) (q : Pq) (w : World) : Calls Try.prog 18 #[oV o q] w fun e w' => e = .returned (.int .i64 (kindN o.kind)) ∧ Below w.heap.size w w' := by
  obtain ⟨h, hh⟩ : ∃ h, w.heap.size = h := ⟨_, rfl⟩
  have B1 : Below h w (w.alloc (.cells (oL o q).toArray 29)) := hh ▸ ((Below.refl _ _).alloc (Nat.le_refl _) _)
  have hz : h ≤ (w.alloc (.cells (oL o q).toArray 29)).heap.size := by simp; omega
  rw [hh]
  obtain ⟨dn, ds, time, deps, kind, ty, idd, field, value, re, im, rn, rs, dots⟩ := o
  go_enter Try.func18, Try.ntmps18
  go_wp2_with fail
  refine (parts_any kind _).mono ?_
  rintro e w2 ⟨rfl, b2⟩
  have B2 : Hid (Below h w w2 ∧ h ≤ w2.heap.size) := ⟨B1.trans (b2.mono hz), Nat.le_trans hz b2.size⟩
  clear b2 B1 hz
  by_cases hk : 0 ≤ kind ∧ kind ≤ 5
  · have c5 : pKno kind = true := by unfold pKno; simpa using hk
    go_wp2
    go_ret
    refine ⟨?_, B2.out.1.alloc B2.out.2 _⟩
    have : pCel kind = kindN kind := by
      unfold pCel kindN
      rcases (show kind = 0 ∨ kind = 1 ∨ kind = 2 ∨ kind = 3 ∨ kind = 4 ∨ kind = 5 by omega) with rfl | rfl | rfl | rfl | rfl | rfl <;> rfl
    rw [this]
    rfl
  · have c5 : pKno kind = false := by unfold pKno; simp; omega
    go_wp2
    go_ret
    refine ⟨?_, B2.out.1.alloc B2.out.2 _⟩
    have : kindN kind = -1 := by
      unfold kindN
      rw [if_neg (by omega), if_neg (by omega), if_neg (by omega), if_neg (by omega)]
    rw [this]
    rfl

end Go.Proofs.Ytjfgccjdkflfoaa

