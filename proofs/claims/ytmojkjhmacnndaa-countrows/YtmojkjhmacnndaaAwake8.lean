/-
  Cells that count, of no lists: Add at them. The laws' own first look at package count ('awake'): it answers true.
-/
import Derived.Test.YtmojkjhmacnndaaCntRef
import Derived.Test.YtmojkjhmacnndaaNum
namespace Go.Proofs.Ytmojkjhmacnndaa
open Go.RowKit
set_option linter.unusedVariables false
set_option linter.unusedSimpArgs false

/-- A cell of a kind and a number, of nothing more. -/
def nc (k X Y : Int) : Ce := ⟨k, false, 0, 0, ByteArray.empty, X, Y, [], [], []⟩
abbrev nl (k X Y : Int) : List Value := [.int .i64 k, .bool false, .int .i64 0, .int .i64 0, .string ⟨#[]⟩, .int .i64 X, .int .i64 Y, .slice none 0 0, .slice none 0 0, .slice none 0 0]
abbrev nv (k X Y : Int) : Value := .agg #[.int .i64 k, .bool false, .int .i64 0, .int .i64 0, .string ⟨#[]⟩, .int .i64 X, .int .i64 Y, .slice none 0 0, .slice none 0 0, .slice none 0 0]

/-- Add at a cell of no lists. -/
theorem cadd_bare {X Y x y : Int} (X' Y' : Int) (h : addB X Y x y = true) (hx : X' = X + x) (hy : Y' = Y + y) (w : World) :
    Calls Try.prog 7 #[nv 1 X Y, pv x y] w fun e w' => e = .returned (.tuple #[nv 1 X' Y', .int .i64 0]) ∧ Below w.heap.size w w' := by
  refine Calls.mono (cadd_yes (nc 1 X Y) pl0 x y w (bare_row w rfl rfl rfl _) (fit_bare rfl rfl (by simp [nc]) (by simp [nc])) (by simp [cntB, nc, h])) ?_
  rintro e w1 ⟨q, rfl, _, hn, b⟩
  obtain rfl := nils_all rfl rfl rfl hn
  subst hx hy
  exact ⟨rfl, b⟩

/-- Add at a cell of no lists that is refused. -/
theorem cadd_bad (k X Y x y : Int) (w : World) (hb : cntB (nc k X Y) x y = false) :
    Calls Try.prog 7 #[nv k X Y, pv x y] w fun e w' => e = .returned (.tuple #[nv 0 0 0, .int .i64 800]) ∧ Below w.heap.size w w' :=
  Calls.mono (cadd_no (nc k X Y) pl0 x y w hb) fun e w' h => h

theorem same_num (k X Y : Int) (w : World) :
    Calls Try.prog 9 #[nv k X Y, nv k X Y] w fun e w' => e = .returned (.bool true) ∧ Below w.heap.size w w' :=
  sameCell_any (nc k X Y) pl0 pl0 w (bare_row w rfl rfl rfl _) (bare_row w rfl rfl rfl _) (fit_bare rfl rfl (by simp [nc]) (by simp [nc]))

set_option maxHeartbeats 2000000 in
set_option maxRecDepth 100000 in
theorem awake8_any (w : World) :
    Calls Try.prog 12 #[] w fun e w' => e = .returned (.bool true) ∧ Below w.heap.size w w' := by
  have H0 : Hid (Regs w.heap.size w (w.alloc (.cells (nl 1 0 0).toArray 30)) [(w.heap.size, nl 1 0 0)]) := Regs.push (L := []) ⟨Below.refl _ _, Nat.le_refl _⟩ rfl _ _
  obtain ⟨h, hh⟩ : ∃ h, w.heap.size = h := ⟨_, rfl⟩
  rw [hh] at H0 ⊢
  go_enter Try.func12, Try.ntmps12
  go_wp2_with fail
  refine (cadd_bare (X := 0) (Y := 0) (x := 3) (y := 1) 3 1 (by decide +kernel) (by decide) (by decide) _).mono ?_
  rintro e w1 ⟨rfl, b1⟩
  obtain ⟨k1, e1⟩ : ∃ k, w1.heap.size = k := ⟨_, rfl⟩
  have H1 : Hid (Regs h w (w1.alloc (.cells (nl 1 3 1).toArray 30)) [(k1, nl 1 3 1)]) := Regs.push (L := []) (H0.out.2.later b1) e1 _ _
  clear H0 b1
  go_wp2_with fail
  refine (cadd_bare (X := 3) (Y := 1) (x := -4) (y := 0) (-1) 1 (by decide +kernel) (by decide) (by decide) _).mono ?_
  rintro e w2 ⟨rfl, b2⟩
  obtain ⟨k2, e2⟩ : ∃ k, w2.heap.size = k := ⟨_, rfl⟩
  have H2 : Hid (Regs h w (w2.alloc (.cells (nl 1 (-1) 1).toArray 30)) [(k2, nl 1 (-1) 1), (k1, nl 1 3 1)]) := Regs.push (H1.out.later b2) e2 _ _
  clear H1 b2 e1
  go_wp2_with fail
  refine (cadd_bad 0 0 0 0 0 _ (by decide +kernel)).mono ?_
  rintro e w3 ⟨rfl, b3⟩
  obtain ⟨k3, e3⟩ : ∃ k, w3.heap.size = k := ⟨_, rfl⟩
  have H3 : Hid (Regs h w (w3.alloc (.cells (nl 0 0 0).toArray 30)) [(k2, nl 1 (-1) 1), (k1, nl 1 3 1)]) := (H2.out.later b3).later ((Below.refl _ _).alloc (Nat.le_refl _) _)
  clear H2 b3 e2
  go_wp2_with fail
  refine (cadd_bad 1 4503599627370496 0 1 0 _ (by decide +kernel)).mono ?_
  rintro e w4 ⟨rfl, b4⟩
  have H4 : Hid (Regs h w w4 [(k2, nl 1 (-1) 1), (k1, nl 1 3 1)]) := H3.out.later b4
  clear H3 b4 e3
  obtain ⟨k4, e4⟩ : ∃ k, w4.heap.size = k := ⟨_, rfl⟩
  have B5 : Hid (Below h w (w4.alloc (.cells (nl 0 0 0).toArray 30))) := H4.out.base.1.alloc H4.out.base.2 _
  have x5 := H4.out.1.at 5 rfl
  have x6 := H4.out.1.at 6 rfl
  have y5 := H4.out.2.1.at 5 rfl
  have y6 := H4.out.2.1.at 6 rfl
  have l1 : k2 < k4 := by have := H4.out.1.1; omega
  have l2 : k1 < k4 := by have := H4.out.2.1.1; omega
  go_wp2_with (go_at_call 10; refine (num_any _ _).mono ?_; rintro e w0 ⟨rfl, rfl⟩)
  go_ret
  exact ⟨rfl, B5.out⟩

end Go.Proofs.Ytmojkjhmacnndaa
