/-
  The laws' own first look at package orset ('awake'): it answers true.
-/
import Derived.Test.YtedgobdeoheaoaaSets9
namespace Go.Proofs.Ytedgobdeoheaoaa
open Go.RowKit Go.Shelf
set_option linter.unusedVariables false
set_option linter.unusedSimpArgs false

abbrev bA : ByteArray := ⟨#[97]⟩
abbrev bB : ByteArray := ⟨#[98]⟩
abbrev aw1 : List E3 := [⟨1, 2, bB⟩]
abbrev aw2 : List E3 := [⟨0, 7, bA⟩, ⟨1, 2, bB⟩]
abbrev aw3 : List E3 := [⟨0, 7, bA⟩, ⟨1, 2, bB⟩, ⟨1, 3, bB⟩]
abbrev aw4 : List E3 := [⟨0, 7, bA⟩, ⟨1, 3, bB⟩]

theorem small_aw {l : List E3} (h1 : l.length ≤ 64) (h2 : l.all (fun x => decide (x.val.size ≤ 256)) = true) : Small l := ⟨h1, fun x hx => by simpa using List.all_eq_true.1 h2 x hx⟩

set_option maxHeartbeats 4000000 in
set_option maxRecDepth 100000 in
theorem awake9_any (w : World) :
    Calls Try.prog 25 #[] w fun e w' => e = .returned (.bool true) ∧ Below w.heap.size w w' := by
  have H0 : Hid (Regs w.heap.size w (w.alloc (.cells (slL 0 pl0).toArray 30)) [(w.heap.size, slL 0 pl0)]) := Regs.push (L := []) ⟨Below.refl _ _, Nat.le_refl _⟩ rfl _ _
  obtain ⟨h, hh⟩ : ∃ h, w.heap.size = h := ⟨_, rfl⟩
  rw [hh] at H0 ⊢
  go_enter Try.func25, Try.ntmps25
  go_wp2_with fail
  refine (puts_yes (l := []) (q := pl0) (d := (1, 2)) (v := bB) _ aw1 0 1 rfl (FRow.nil _ _) Small.nil (by decide +kernel) rfl rfl).mono ?_
  rintro e w1 ⟨q1, rfl, o1, b1⟩
  obtain ⟨k1, e1⟩ : ∃ k, w1.heap.size = k := ⟨_, rfl⟩
  have H1 : Hid (Regs h w (w1.alloc (.cells (slL 1 q1).toArray 30)) [(k1, slL 1 q1)] ∧ FRow (w1.alloc (.cells (slL 1 q1).toArray 30)) q1.eo (flatE aw1)) := ⟨Regs.push (L := []) (H0.out.2.later b1) e1 _ _, o1.row.later ((Below.refl _ _).alloc (Nat.le_refl _) _)⟩
  clear H0 b1 o1 hh
  go_wp2_with fail
  refine (puts_yes (l := aw1) (q := q1) (d := (0, 7)) (v := bA) _ aw2 1 2 rfl H1.out.2 (small_aw (by decide) (by decide +kernel)) (by decide +kernel) rfl rfl).mono ?_
  rintro e w2 ⟨q2, rfl, o2, b2⟩
  obtain ⟨k2, e2⟩ : ∃ k, w2.heap.size = k := ⟨_, rfl⟩
  have H2 : Hid (Regs h w (w2.alloc (.cells (slL 2 q2).toArray 30)) [(k2, slL 2 q2)] ∧ FRow (w2.alloc (.cells (slL 2 q2).toArray 30)) q2.eo (flatE aw2)) := ⟨Regs.push (L := []) (H1.out.1.2.later b2) e2 _ _, o2.row.later ((Below.refl _ _).alloc (Nat.le_refl _) _)⟩
  clear H1 b2 o2 e1
  go_wp2_with fail
  refine (puts_yes (l := aw2) (q := q2) (d := (1, 3)) (v := bB) _ aw3 2 3 rfl H2.out.2 (small_aw (by decide) (by decide +kernel)) (by decide +kernel) rfl rfl).mono ?_
  rintro e w3 ⟨q3, rfl, o3, b3⟩
  obtain ⟨k3, e3⟩ : ∃ k, w3.heap.size = k := ⟨_, rfl⟩
  have H3 : Hid (Regs h w (w3.alloc (.cells (slL 3 q3).toArray 30)) [(k3, slL 3 q3)] ∧ FRow (w3.alloc (.cells (slL 3 q3).toArray 30)) q3.eo (flatE aw3)) := ⟨Regs.push (L := []) (H2.out.1.2.later b3) e3 _ _, o3.row.later ((Below.refl _ _).alloc (Nat.le_refl _) _)⟩
  clear H2 b3 o3 e2
  go_wp2_with fail
  refine (dotss_yes (l := aw3) (q := q3) (v := bB) _ [(1, 2), (1, 3)] 3 2 rfl H3.out.2 (small_aw (by decide) (by decide +kernel)) (by decide +kernel) rfl).mono ?_
  rintro e w4 ⟨ao, ca, rfl, o4, b4⟩
  have H4 : Hid (Regs h w w4 [(k3, slL 3 q3)] ∧ FRow w4 q3.eo (flatE aw3) ∧ FRow w4 ao (flatD [(1, 2), (1, 3)])) := ⟨H3.out.1.later b4, H3.out.2.later b4, o4.row⟩
  clear H3 b4 o4 e3
  have t0 := H4.out.1.1.at 0 rfl
  have t1 := H4.out.1.1.at 1 rfl
  have t2 := H4.out.1.1.at 2 rfl
  have t3 := H4.out.1.1.at 3 rfl
  have t4 := H4.out.1.1.at 4 rfl
  have t5 := H4.out.1.1.at 5 rfl
  have t6 := H4.out.1.1.at 6 rfl
  have t7 := H4.out.1.1.at 7 rfl
  have t8 := H4.out.1.1.at 8 rfl
  have t9 := H4.out.1.1.at 9 rfl
  go_wp2_with fail
  refine (valss_yes (l := aw3) (q := q3) _ [[97], [98]] 3 2 rfl H4.out.2.1 (small_aw (by decide) (by decide +kernel)) (by decide +kernel) rfl).mono ?_
  rintro e w5 ⟨vo, cv, rfl, o5, b5⟩
  have H5 : Hid (Regs h w w5 [(k3, slL 3 q3)] ∧ FRow w5 q3.eo (flatE aw3) ∧ FRow w5 ao (flatD [(1, 2), (1, 3)]) ∧ FRow w5 vo (flatS [[97], [98]])) := ⟨H4.out.1.later b5, H4.out.2.1.later b5, H4.out.2.2.later b5, o5.row⟩
  clear H4 b5 o5 t0 t1 t2 t3 t4 t5 t6 t7 t8 t9
  have t0 := H5.out.1.1.at 0 rfl
  have t1 := H5.out.1.1.at 1 rfl
  have t2 := H5.out.1.1.at 2 rfl
  have t3 := H5.out.1.1.at 3 rfl
  have t4 := H5.out.1.1.at 4 rfl
  have t5 := H5.out.1.1.at 5 rfl
  have t6 := H5.out.1.1.at 6 rfl
  have t7 := H5.out.1.1.at 7 rfl
  have t8 := H5.out.1.1.at 8 rfl
  have t9 := H5.out.1.1.at 9 rfl
  obtain ⟨k5, e5⟩ : ∃ k, w5.heap.size = k := ⟨_, rfl⟩
  have l5 : k3 < k5 := by have := H5.out.1.1.1; omega
  have R5 : Hid (FRow (w5.alloc (.cells #[.int .i64 1, .int .i64 2] 32)) (some ⟨k5, 0, none⟩) (flatD [(1, 2)])) := frow_newAt e5 [.int .i64 1, .int .i64 2] _
  go_wp2_with fail
  refine (drops_yes (l := aw3) (q := q3) (ds := [(1, 2)]) (some ⟨k5, 0, none⟩) 1 _ aw4 3 1 2 rfl rfl (H5.out.2.1.later ((Below.refl _ _).alloc (Nat.le_refl _) _)) (small_aw (by decide) (by decide +kernel)) R5.out (by decide) rfl rfl).mono ?_
  rintro e w6 ⟨q6, rfl, o6, b6⟩
  obtain ⟨k6, e6⟩ : ∃ k, w6.heap.size = k := ⟨_, rfl⟩
  have hb6 : Below w5.heap.size w5 w6 := thenB ((Below.refl _ _).alloc (Nat.le_refl _) _) b6
  have H6 : Hid (Regs h w (w6.alloc (.cells (slL 2 q6).toArray 30)) [(k6, slL 2 q6)] ∧ FRow (w6.alloc (.cells (slL 2 q6).toArray 30)) q3.eo (flatE aw3) ∧ FRow (w6.alloc (.cells (slL 2 q6).toArray 30)) ao (flatD [(1, 2), (1, 3)]) ∧ FRow (w6.alloc (.cells (slL 2 q6).toArray 30)) vo (flatS [[97], [98]]) ∧ FRow (w6.alloc (.cells (slL 2 q6).toArray 30)) q6.eo (flatE aw4)) :=
    have hal : Below w6.heap.size w6 (w6.alloc (.cells (slL 2 q6).toArray 30)) := (Below.refl _ _).alloc (Nat.le_refl _) _
    ⟨Regs.push (L := []) (H5.out.1.2.later hb6) e6 _ _, (H5.out.2.1.later hb6).later hal, (H5.out.2.2.1.later hb6).later hal, (H5.out.2.2.2.later hb6).later hal, o6.row.later hal⟩
  have HH : Hid (Has w6 k3 (slL 3 q3)) := H5.out.1.1.later hb6
  clear H5 b6 hb6 o6 t0 t1 t2 t3 t4 t5 t6 t7 t8 t9 e5 R5
  have l6 : k3 < k6 := by have := HH.out.1; omega
  have t0 := HH.out.at 0 rfl
  have t1 := HH.out.at 1 rfl
  have t2 := HH.out.at 2 rfl
  have t3 := HH.out.at 3 rfl
  have t4 := HH.out.at 4 rfl
  have t5 := HH.out.at 5 rfl
  have t6 := HH.out.at 6 rfl
  have t7 := HH.out.at 7 rfl
  have t8 := HH.out.at 8 rfl
  have t9 := HH.out.at 9 rfl
  go_wp2_with fail
  refine (puts_no (l := aw3) (q := q3) (d := (0, 7)) (v := ⟨#[122]⟩) _ 3 rfl H6.out.2.1 (small_aw (by decide) (by decide +kernel)) (by decide) (by decide +kernel)).mono ?_
  rintro e w7 ⟨rfl, b7⟩
  have H7 : Hid (Regs h w w7 [(k6, slL 2 q6)] ∧ FRow w7 ao (flatD [(1, 2), (1, 3)]) ∧ FRow w7 vo (flatS [[97], [98]]) ∧ FRow w7 q6.eo (flatE aw4)) := ⟨H6.out.1.later b7, H6.out.2.2.1.later b7, H6.out.2.2.2.1.later b7, H6.out.2.2.2.2.later b7⟩
  clear H6 HH b7 t0 t1 t2 t3 t4 t5 t6 t7 t8 t9 e6
  obtain ⟨k7, e7⟩ : ∃ k, w7.heap.size = k := ⟨_, rfl⟩
  go_wp2_with fail
  refine (vals_no ce0 pl0 _ rfl).mono ?_
  rintro e w8 ⟨rfl, b8⟩
  have hb8 : Below w7.heap.size w7 w8 := thenB ((Below.refl _ _).alloc (Nat.le_refl _) _) b8
  have H8 : Hid (Regs h w w8 [(k6, slL 2 q6)] ∧ FRow w8 ao (flatD [(1, 2), (1, 3)]) ∧ FRow w8 vo (flatS [[97], [98]]) ∧ FRow w8 q6.eo (flatE aw4)) := ⟨H7.out.1.later hb8, H7.out.2.1.later hb8, H7.out.2.2.1.later hb8, H7.out.2.2.2.later hb8⟩
  clear H7 b8 hb8 e7
  obtain ⟨k8, e8⟩ : ∃ k, w8.heap.size = k := ⟨_, rfl⟩
  have R8 : Hid (FRow (w8.alloc (.cells #[.int .i64 1, .int .i64 2, .int .i64 1, .int .i64 3] 32)) (some ⟨k8, 0, none⟩) (flatD [(1, 2), (1, 3)])) := frow_newAt e8 [.int .i64 1, .int .i64 2, .int .i64 1, .int .i64 3] _
  go_wp2_with (go_at_call 19; refine (num_any _ _).mono ?_; rintro e w0 ⟨rfl, hw0⟩; have hw1 := hw0.symm; clear hw0; subst hw1)
  refine (dsame_any ao (some ⟨k8, 0, none⟩) ca 2 [(1, 2), (1, 3)] _ (H8.out.2.1.later ((Below.refl _ _).alloc (Nat.le_refl _) _)) R8.out (by decide)).mono ?_
  rintro e w9 ⟨rfl, b9⟩
  have hb9 : Below w8.heap.size w8 w9 := thenB ((Below.refl _ _).alloc (Nat.le_refl _) _) b9
  have H9 : Hid (Regs h w w9 [(k6, slL 2 q6)] ∧ FRow w9 vo (flatS [[97], [98]]) ∧ FRow w9 q6.eo (flatE aw4)) := ⟨H8.out.1.later hb9, H8.out.2.2.1.later hb9, H8.out.2.2.2.later hb9⟩
  clear H8 b9 hb9 e8 R8
  obtain ⟨k9, e9⟩ : ∃ k, w9.heap.size = k := ⟨_, rfl⟩
  have R9 : Hid (FRow (w9.alloc (.cells #[.string bA, .string bB] 9)) (some ⟨k9, 0, none⟩) (flatS [[97], [98]])) := frow_newAt e9 [.string bA, .string bB] _
  go_wp2_with (go_at_call 19; refine (num_any _ _).mono ?_; rintro e w0 ⟨rfl, hw0⟩; have hw1 := hw0.symm; clear hw0; subst hw1)
  refine (tsame_any vo (some ⟨k9, 0, none⟩) cv 2 [[97], [98]] _ (H9.out.2.1.later ((Below.refl _ _).alloc (Nat.le_refl _) _)) R9.out (by decide)).mono ?_
  rintro e w10 ⟨rfl, b10⟩
  have hb10 : Below w9.heap.size w9 w10 := thenB ((Below.refl _ _).alloc (Nat.le_refl _) _) b10
  have H10 : Hid (Regs h w w10 [(k6, slL 2 q6)] ∧ FRow w10 q6.eo (flatE aw4)) := ⟨H9.out.1.later hb10, H9.out.2.2.later hb10⟩
  clear H9 b10 hb10 e9 R9
  obtain ⟨bk, off, eq, hbk, hc⟩ := H10.out.2 (by decide)
  have c2 := hc 2 _ rfl
  have t7 := H10.out.1.1.at 7 rfl
  rw [eq] at t7
  clear hc eq
  go_wp2_with (go_at_call 19; refine (num_any _ _).mono ?_; rintro e w0 ⟨rfl, hw0⟩; have hw1 := hw0.symm; clear hw0; subst hw1)
  go_ret
  exact ⟨rfl, H10.out.1.base.1⟩

end Go.Proofs.Ytedgobdeoheaoaa
