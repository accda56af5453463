/-
  Package gauss: Add answers the sum of two pairs, by way of the language's complex numbers.
-/
import Derived.Test.YtmojkjhmacnndaaGau
namespace Go.Proofs.Ytmojkjhmacnndaa
open Go.RowKit
set_option linter.unusedVariables false

theorem natAbs_le {x : Int} (h : -4503599627370496 ≤ x ∧ x ≤ 4503599627370496) : x.natAbs ≤ 4503599627370496 := by omega

/-- Two numbers, as floats, summed and cut to whole numbers again. -/
theorem sum_exact {a c : Int} (ha : -4503599627370496 ≤ a ∧ a ≤ 4503599627370496) (hc : -4503599627370496 ≤ c ∧ c ≤ 4503599627370496) :
    ∃ r, floatBits .add .f64 (FloatKind.f64.nearest a) (FloatKind.f64.nearest c) = some r ∧ floatToIntVal .f64 r .i64 = some (a + c) :=
  Flo.whole_sum (Flo.whole_of_int a (natAbs_le ha)) (Flo.whole_of_int c (natAbs_le hc)) (by omega)

/-- What the region of the sum keeps: the two pairs' cells. -/
abbrev HeldA (w0 : World) (n : Nat) (a b c d : Int) (w : World) : Prop :=
  Hid (Add3 w0 n a b c d w) ∧ w.cell? ⟨n, 0, none⟩ = some (.int .i64 a) ∧ w.cell? ⟨n, 1, none⟩ = some (.int .i64 b) ∧ w.cell? ⟨n + 1, 0, none⟩ = some (.int .i64 c) ∧ w.cell? ⟨n + 1, 1, none⟩ = some (.int .i64 d)

theorem heldA_of {w0 w : World} {n : Nat} {a b c d : Int} (h : Add3 w0 n a b c d w) : HeldA w0 n a b c d w := ⟨h, h.2.1.2.1, h.2.1.2.2.1, h.2.2.1.2.1, h.2.2.1.2.2.1⟩

theorem heldA_later {w0 w w' : World} {n : Nat} {a b c d : Int} (hb : Below w.heap.size w w') (h : HeldA w0 n a b c d w) : HeldA w0 n a b c d w' := heldA_of (h.1.out.later hb)

/-- The place of the sum, made ahead of it. -/
def Six (n : Nat) (w : World) (k : Nat) : Prop := Two w k 0 0 ∧ n + 2 < k

theorem six_new {w w3 : World} {n : Nat} {t : TypeId} (h : n + 2 < w.heap.size) (hb : Below (w.alloc (.cells #[.int .i64 0, .int .i64 0] t)).heap.size (w.alloc (.cells #[.int .i64 0, .int .i64 0] t)) w3) : Six n w3 w.heap.size :=
  ⟨(two_new _ _ _ _).later hb, h⟩

theorem six_newd {w w3 : World} {n : Nat} {t : TypeId} (h : n + 2 < w.heap.size) (hb : Below (w.alloc (.cells #[.int .i64 0, .int .i64 0] t)).drew.heap.size (w.alloc (.cells #[.int .i64 0, .int .i64 0] t)).drew w3) : Six n w3 w.heap.size :=
  ⟨(two_new _ _ _ _).drew.later hb, h⟩

theorem six_later {w w3 : World} {n k : Nat} (h : Six n w k) (hb : Below w.heap.size w w3) : Six n w3 k := ⟨h.1.later hb, h.2⟩

theorem heldA_put {w0 w : World} {n k : Nat} {a b c d : Int} (s : Six n w k) (h : HeldA w0 n a b c d w) (x y : Int) : HeldA w0 n a b c d (putTwo w k x y) := by
  obtain ⟨h0, h1, h2, h3⟩ := h.1.out
  have hk := s.2
  exact heldA_of ⟨below_put h0 (by omega) _ _, two_put_other h1 (by omega) _ _, two_put_other h2 (by omega) _ _, two_put_other h3 (by omega) _ _⟩

theorem heldA_swap {w0 w : World} {n : Nat} {a b c d x y : Int} {t : TypeId} (hk : n + 2 < w.heap.size) (h : HeldA w0 n a b c d (w.alloc (.cells #[.int .i64 0, .int .i64 0] t))) : HeldA w0 n a b c d (w.alloc (.cells #[.int .i64 x, .int .i64 y] t)) := by
  have e : ∀ k, k < w.heap.size → (w.alloc (.cells #[.int .i64 x, .int .i64 y] t)).heap[k]? = (w.alloc (.cells #[.int .i64 0, .int .i64 0] t)).heap[k]? := fun k hk => by
    rw [Below.heap_alloc _ _ _ hk, Below.heap_alloc _ _ _ hk]
  have two : ∀ {g : Nat} {p q : Int}, g < w.heap.size → Two (w.alloc (.cells #[.int .i64 0, .int .i64 0] t)) g p q → Two (w.alloc (.cells #[.int .i64 x, .int .i64 y] t)) g p q := fun {g p q} hg ⟨h1, h2, h3, h4, h5⟩ =>
    ⟨by simp; omega, by rw [← h2]; exact World.cell?_of_block (e g hg), by rw [← h3]; exact World.cell?_of_block (e g hg), by rw [← h4]; exact World.frozen?_of_block (e g hg), by rw [← h5]; exact World.frozen?_of_block (e g hg)⟩
  obtain ⟨h0, h1, h2, h3⟩ := h.1.out
  exact heldA_of ⟨⟨h0.os, h0.tape, h0.output, by simpa using h0.size, fun k hk2 => (e k (by omega)).trans (h0.block k hk2)⟩, two (by omega) h1, two (by omega) h2, two (by omega) h3⟩

theorem held_id {w : World} {k : Nat} (w0 : World) (n : Nat) (a b c d x y : Int) (s : Six n w k) (h : HeldA w0 n a b c d (putTwo w k x y)) : HeldA w0 n a b c d (putTwo w k x y) := h

set_option maxHeartbeats 2000000 in
theorem gadd_any (a b c d : Int) (w : World) :
    Calls Try.prog 14 #[pv a b, pv c d] w fun e w' => e = .returned (.tuple #[pv (sre a b c d) (sim a b c d), .int .i64 (ser a b c d)]) ∧ Below w.heap.size w w' := by
  have H0 := add3_new w a b c d 25 25 25
  cases h1 : pairB a b
  · have hno := add_no (a := a) (b := b) (c := c) (d := d) (by simp [addB, h1])
    go_enter Try.func14, Try.ntmps14
    go_wp2_with fail
    refine (gmay_any _ _ _).mono ?_
    rintro e w1 ⟨rfl, k1⟩
    replace H0 := H0.later k1
    obtain ⟨n, hn⟩ : ∃ n, w.heap.size = n := ⟨_, rfl⟩
    rw [hn] at H0 ⊢
    have HH : Hid (Add3 w n a b c d w1) := H0
    obtain ⟨q0, q1, q2, q3⟩ := H0
    obtain ⟨_, e1, e2, e3, e4⟩ := q3
    clear k1
    go_wp2_with fail
    exact add_end HH.out hn rfl rfl rfl rfl hno.1.symm hno.2.1.symm hno.2.2.symm
  · have b1 := pairB_parts h1
    go_enter Try.func14, Try.ntmps14
    go_wp2_with fail
    refine (gmay_any _ _ _).mono ?_
    rintro e w1 ⟨rfl, k1⟩
    replace H0 := H0.later k1
    obtain ⟨n, hn⟩ : ∃ n, w.heap.size = n := ⟨_, rfl⟩
    rw [hn] at H0 ⊢
    have HH : Hid (Add3 w n a b c d w1) := H0
    obtain ⟨q0, q1, q2, q3⟩ := H0
    obtain ⟨_, e1, e2, _, _⟩ := q2
    clear k1 q1 q3
    cases h2 : pairB c d
    · have hno := add_no (a := a) (b := b) (c := c) (d := d) (by simp [addB, h2])
      go_wp2_with fail
      refine (gmay_any _ _ _).mono ?_
      rintro e w2 ⟨rfl, k2⟩
      have H2 : Hid (Add3 w n a b c d w2) := HH.out.later k2
      obtain ⟨_, d1, d2, d3, d4⟩ := H2.out.2.2.2
      clear k2
      go_wp2_with fail
      exact add_end H2.out hn rfl rfl rfl rfl hno.1.symm hno.2.1.symm hno.2.2.symm
    · have b2 := pairB_parts h2
      obtain ⟨re, r1, r2⟩ := sum_exact b1.1 b2.1
      obtain ⟨im, r3, r4⟩ := sum_exact b1.2 b2.2
      have HR : Hid (floatToIntVal .f64 re .i64 = some (a + c) ∧ floatToIntVal .f64 im .i64 = some (b + d)) := ⟨r2, r4⟩
      have hop := fun t w => run_complex_sum (P := Try.prog) w .add (Or.inl rfl) t .f64 _ _ _ _ re im (show cSumBits .add .f64 (FloatKind.f64.nearest a) (FloatKind.f64.nearest b) (FloatKind.f64.nearest c) (FloatKind.f64.nearest d) = some (re, im) by unfold cSumBits; rw [r1, r3]; rfl)
      clear r1 r2 r3 r4 b1 b2
      go_wp2_with fail
      refine (gmay_any _ _ _).mono ?_
      rintro e w2 ⟨rfl, k2⟩
      have H2 : Hid (Add3 w n a b c d w2) := HH.out.later k2
      have hz : n + 2 < w2.drew.heap.size := H2.out.2.2.2.1
      have hz2 : n + 2 < w2.heap.size := H2.out.2.2.2.1
      clear k2 e1 e2
      go_wp2_with fail
      go_region_held3 (HeldA w n a b c d) (first | exact heldA_put T6 (by assumption) _ _ | exact heldA_swap (by omega) (by assumption) | exact heldA_later hb2 (by assumption) | exact heldA_of (H2.out.later (Below.refl _ _).drew) | exact heldA_later ((Below.refl _ _).alloc (Nat.le_refl _) _) (by assumption))
        (first
          | (go_at_call 21; refine (number_any _ _ _).mono ?_; rintro e w3 ⟨rfl, hb2⟩; have hz := hb2.size; first | (have T6 := six_newd (n := n) (by omega) hb2; obtain ⟨_, u1, u2, u3, u4⟩ := id T6.1) | (have T6 := six_new (n := n) (by omega) hb2; obtain ⟨_, u1, u2, u3, u4⟩ := id T6.1) | (replace T6 := six_later T6 hb2; obtain ⟨_, u1, u2, u3, u4⟩ := id T6.1) | skip)
          | (go_at_call 20; refine (pair_any _ _ _ _ _ HR.out.1 HR.out.2).mono ?_; rintro e w3 ⟨rfl, hb2⟩; have hz := hb2.size; first | (have T6 := six_newd (n := n) (by omega) hb2; obtain ⟨_, u1, u2, u3, u4⟩ := id T6.1) | (have T6 := six_new (n := n) (by omega) hb2; obtain ⟨_, u1, u2, u3, u4⟩ := id T6.1) | (replace T6 := six_later T6 hb2; obtain ⟨_, u1, u2, u3, u4⟩ := id T6.1) | skip))
      all_goals
        (first
          | (have T7 := two_put T6.1 (a + c) (b + d); have S7 := held_id w n a b c d (a + c) (b + d) T6 (by assumption))
          | (have T7 := two_new w3 (a + c) (b + d) 25; have S7 : HeldA w n a b c d (w3.alloc (.cells #[.int .i64 (a + c), .int .i64 (b + d)] 25)) := by assumption)
         have TT := id T7
         obtain ⟨_, t1, t2, _, _⟩ := TT
         go_wp2_with fail
         refine (gmay_any _ _ _).mono ?_
         rintro e w4 ⟨rfl, k4⟩
         replace T7 := T7.later k4
         have S4 : Hid (Add3 w n a b c d w4) := S7.1.out.later k4
         obtain ⟨_, d1, d2, d3, d4⟩ := S4.out.2.2.2
         obtain ⟨_, z1, z2, _, _⟩ := T7
         clear k4 S7 t1 t2
         cases h3 : pairB (a + c) (b + d)
         · have hno := add_no (a := a) (b := b) (c := c) (d := d) (by simp [addB, h3])
           go_wp2_with fail
           exact add_end S4.out hn rfl rfl rfl rfl hno.1.symm hno.2.1.symm hno.2.2.symm
         · have hyes := add_yes (a := a) (b := b) (c := c) (d := d) (by simp [addB, h1, h2, h3])
           go_wp2_with fail
           exact add_end S4.out hn rfl rfl rfl rfl hyes.1.symm hyes.2.1.symm hyes.2.2.symm)

end Go.Proofs.Ytmojkjhmacnndaa
