/-
  The walk of the law LwwSame, at whatever comes as its arguments.
-/
import Derived.Test.YtdcfahkcgedegaaCeBare
namespace Go.Proofs.Ytdcfahkcgedegaa.LwwSame
open Go.RowKit
set_option linter.unusedVariables false
set_option linter.unusedSimpArgs false

theorem mayS_of {t n : Int} (h : 1 ≤ t ∧ t ≤ 16777215 ∧ 0 ≤ n ∧ n < 16) : mayS t n = true := by simpa [mayS] using h

set_option maxHeartbeats 2000000 in
set_option maxRecDepth 100000 in
theorem core (x0 x1 back : Int) (v u : ByteArray) (w : World) (hvm : v.size ≤ maxLen) (hum : u.size ≤ maxLen) :
    Calls Try.prog 6 #[sv x0 x1, .string v, .string u, .int .i64 back] w fun e w' => e = .returned (.bool true) ∧ Below w.heap.size w w' := by
  unfold maxLen at hvm hum
  obtain ⟨z, hz, ez⟩ : ∃ z : Nat, z < 1024 ∧ bits .and .i64 x0 1023 = (z : Int) := and_mask x0 10 (by omega)
  obtain ⟨y, hy, ey⟩ : ∃ y : Nat, y < 16 ∧ bits .and .i64 x1 15 = (y : Int) := and_mask x1 4 (by omega)
  obtain ⟨b, hb, eb⟩ : ∃ b : Nat, b < 2 ∧ bits .and .i64 back 1 = (b : Int) := and_mask back 1 (by omega)
  obtain ⟨r, hr, er⟩ : ∃ r : Nat, r < 16 ∧ bits .and .i64 (back / 2) 15 = (r : Int) := and_mask (back / 2) 4 (by omega)
  obtain ⟨h, hh⟩ : ∃ h, w.heap.size = h := ⟨_, rfl⟩
  have H0 : Hid (Regs h w (w.alloc (.cells #[.int .i64 x0, .int .i64 x1] 23)) [(h, [.int .i64 x0, .int .i64 x1])]) := Regs.push (L := []) ⟨Below.refl _ _, by omega⟩ hh [.int .i64 x0, .int .i64 x1] _
  rw [hh]
  go_enter Try.func6, Try.ntmps6
  go_wp2_with fail
  refine (awake7_any _).mono ?_
  rintro e w1 ⟨rfl, b1⟩
  have H1 := H0.out.later b1
  have H1' : Hid (Regs h w w1 [(h, [.int .i64 x0, .int .i64 x1])]) := H1
  clear H0 b1 H1
  by_cases hv : v.size ≤ 256
  · have dv : decide ((256 : Int) < (v.size : Int)) = false := by simp; omega
    by_cases hu : u.size ≤ 256
    · have du : decide ((256 : Int) < (u.size : Int)) = false := by simp; omega
      have s0 := H1'.out.1.at 0 rfl
      have s1 := H1'.out.1.at 1 rfl
      obtain ⟨k1, hk1⟩ : ∃ k, w1.heap.size = k := ⟨_, rfl⟩
      have H2 : Hid (Regs h w (w1.alloc (.cells #[.int .i64 (2 + z), .int .i64 y] 23)) [(k1, [.int .i64 (2 + z), .int .i64 y])]) := Regs.push H1'.out.2 hk1 [.int .i64 (2 + z), .int .i64 y] _
      have m1 : mayS (2 + z) y = true := mayS_of (by omega)
      go_wp2_with fail
      refine (lset_first (2 + z) y v _ m1 hv).mono ?_
      rintro e w2 ⟨rfl, b2⟩
      have H3 : Hid (Regs h w w2 [(k1, [.int .i64 (2 + z), .int .i64 y])]) := H2.out.later b2
      clear H1' H2 b2 s0 s1 hk1
      obtain ⟨k2, hk2⟩ : ∃ k, w2.heap.size = k := ⟨_, rfl⟩
      have H4 : Hid (Regs h w (w2.alloc (.cells (bl (2 + z) y v).toArray 30)) [(k2, bl (2 + z) y v), (k1, [.int .i64 (2 + z), .int .i64 y])]) := Regs.push H3.out hk2 (bl (2 + z) y v) _
      have s0 := H3.out.1.at 0 rfl
      have s1 := H3.out.1.at 1 rfl
      have l1 : k1 < k2 := by have := H3.out.1.1; omega
      have m2 : lessB (2 + z) y (2 + z) y = false := by simp [lessB]
      go_wp2_with fail
      refine (lset_again (2 + z) y (2 + z) y v u _ m1 hv hu m2).mono ?_
      rintro e w3 ⟨rfl, b3⟩
      have H5 : Hid (Regs h w w3 [(k2, bl (2 + z) y v), (k1, [.int .i64 (2 + z), .int .i64 y])]) := H4.out.later b3
      clear H3 H4 b3 s0 s1 hk2
      obtain ⟨k3, hk3⟩ : ∃ k, w3.heap.size = k := ⟨_, rfl⟩
      have H6 : Hid (Regs h w (w3.alloc (.cells (bl (2 + z) y v).toArray 30)) [(k3, bl (2 + z) y v), (k2, bl (2 + z) y v), (k1, [.int .i64 (2 + z), .int .i64 y])]) := Regs.push H5.out hk3 (bl (2 + z) y v) _
      have s0 := H5.out.2.1.at 0 rfl
      have s1 := H5.out.2.1.at 1 rfl
      obtain ⟨t0, t1, t2, t3, t4, t5, t6, t7, t8, t9⟩ := H5.out.1.ten
      have l2 : k1 < k3 := by have := H5.out.2.1.1; omega
      have l3 : k2 < k3 := by have := H5.out.1.1; omega
      by_cases hb0 : b = 0
      · subst hb0
        have m3 : mayS (2 + z - 1) r = true := mayS_of (by omega)
        have m4 : lessB (2 + z) y (2 + z - 1) r = false := by simp [lessB]; omega
        have H7 : Hid (Regs h w ((w3.alloc (.cells (bl (2 + z) y v).toArray 30)).alloc (.cells #[.int .i64 (2 + z - 1), .int .i64 r] 23)) [(k3, bl (2 + z) y v), (k2, bl (2 + z) y v), (k1, [.int .i64 (2 + z), .int .i64 y])]) := H6.out.later ((Below.refl _ _).alloc (Nat.le_refl _) _)
        go_wp2_with fail
        refine (lset_again (2 + z) y (2 + z - 1) r v u _ m3 hv hu m4).mono ?_
        rintro e w4 ⟨rfl, b4⟩
        have H8 : Hid (Regs h w w4 [(k3, bl (2 + z) y v), (k2, bl (2 + z) y v), (k1, [.int .i64 (2 + z), .int .i64 y])]) := H7.out.later b4
        clear H5 H6 H7 b4 s0 s1 hk3 t0 t1 t2 t3 t4 t5 t6 t7 t8 t9
        obtain ⟨k5, hk5⟩ : ∃ k, w4.heap.size = k := ⟨_, rfl⟩
        have H9 : Hid (Regs h w (w4.alloc (.cells (bl (2 + z) y v).toArray 30)) [(k5, bl (2 + z) y v), (k3, bl (2 + z) y v), (k2, bl (2 + z) y v), (k1, [.int .i64 (2 + z), .int .i64 y])]) := Regs.push H8.out hk5 (bl (2 + z) y v) _
        have l4 : k1 < k5 := by have := H8.out.2.2.1.1; omega
        have l5 : k2 < k5 := by have := H8.out.2.1.1; omega
        have l6 : k3 < k5 := by have := H8.out.1.1; omega
        obtain ⟨t0, t1, t2, t3, t4, t5, t6, t7, t8, t9⟩ := H8.out.2.1.ten
        obtain ⟨r0, r1, r2, r3, r4, r5, r6, r7, r8, r9⟩ := H8.out.1.ten
        go_wp2_with (go_at_call 11; refine (num_any _ _).mono ?_; rintro e w0 ⟨rfl, rfl⟩)
        refine (same_bare (2 + z) y v _ hv).mono ?_
        rintro e w5 ⟨rfl, b5⟩
        have HA : Hid (Regs h w w5 [(k5, bl (2 + z) y v), (k3, bl (2 + z) y v), (k2, bl (2 + z) y v), (k1, [.int .i64 (2 + z), .int .i64 y])]) := H9.out.later b5
        clear H8 H9 b5 hk5 t0 t1 t2 t3 t4 t5 t6 t7 t8 t9 r0 r1 r2 r3 r4 r5 r6 r7 r8 r9
        obtain ⟨t0, t1, t2, t3, t4, t5, t6, t7, t8, t9⟩ := HA.out.2.2.1.ten
        obtain ⟨r0, r1, r2, r3, r4, r5, r6, r7, r8, r9⟩ := HA.out.1.ten
        go_wp2_with fail
        refine (same_bare (2 + z) y v _ hv).mono ?_
        rintro e w6 ⟨rfl, b6⟩
        have HB : Hid (Regs h w w6 [(k5, bl (2 + z) y v), (k3, bl (2 + z) y v), (k2, bl (2 + z) y v), (k1, [.int .i64 (2 + z), .int .i64 y])]) := HA.out.later b6
        clear HA b6 t0 t1 t2 t3 t4 t5 t6 t7 t8 t9 r0 r1 r2 r3 r4 r5 r6 r7 r8 r9
        have s0 := HB.out.2.2.2.1.at 0 rfl
        have s1 := HB.out.2.2.2.1.at 1 rfl
        obtain ⟨t0, t1, t2, t3, t4, t5, t6, t7, t8, t9⟩ := HB.out.2.2.1.ten
        go_wp2
        go_ret
        exact ⟨rfl, HB.out.base.1⟩
      · have eb1 : ((b : Int) == 0) = false := by simp; omega
        by_cases hy0 : y = 0
        · subst hy0
          have m3 : mayS (2 + z - 1) r = true := mayS_of (by omega)
          have m4 : lessB (2 + z) (0 : Nat) (2 + z - 1) r = false := by simp [lessB]; omega
          have H7 : Hid (Regs h w ((w3.alloc (.cells (bl (2 + z) (0 : Nat) v).toArray 30)).alloc (.cells #[.int .i64 (2 + z - 1), .int .i64 r] 23)) [(k3, bl (2 + z) (0 : Nat) v), (k2, bl (2 + z) (0 : Nat) v), (k1, [.int .i64 (2 + z), .int .i64 (0 : Nat)])]) := H6.out.later ((Below.refl _ _).alloc (Nat.le_refl _) _)
          go_wp2_with fail
          refine (lset_again (2 + z) (0 : Nat) (2 + z - 1) r v u _ m3 hv hu m4).mono ?_
          rintro e w4 ⟨rfl, b4⟩
          have H8 : Hid (Regs h w w4 [(k3, bl (2 + z) (0 : Nat) v), (k2, bl (2 + z) (0 : Nat) v), (k1, [.int .i64 (2 + z), .int .i64 (0 : Nat)])]) := H7.out.later b4
          clear H5 H6 H7 b4 s0 s1 hk3 t0 t1 t2 t3 t4 t5 t6 t7 t8 t9
          obtain ⟨k5, hk5⟩ : ∃ k, w4.heap.size = k := ⟨_, rfl⟩
          have H9 : Hid (Regs h w (w4.alloc (.cells (bl (2 + z) (0 : Nat) v).toArray 30)) [(k5, bl (2 + z) (0 : Nat) v), (k3, bl (2 + z) (0 : Nat) v), (k2, bl (2 + z) (0 : Nat) v), (k1, [.int .i64 (2 + z), .int .i64 (0 : Nat)])]) := Regs.push H8.out hk5 (bl (2 + z) (0 : Nat) v) _
          have l4 : k1 < k5 := by have := H8.out.2.2.1.1; omega
          have l5 : k2 < k5 := by have := H8.out.2.1.1; omega
          have l6 : k3 < k5 := by have := H8.out.1.1; omega
          obtain ⟨t0, t1, t2, t3, t4, t5, t6, t7, t8, t9⟩ := H8.out.2.1.ten
          obtain ⟨r0, r1, r2, r3, r4, r5, r6, r7, r8, r9⟩ := H8.out.1.ten
          go_wp2_with (go_at_call 11; refine (num_any _ _).mono ?_; rintro e w0 ⟨rfl, rfl⟩)
          refine (same_bare (2 + z) (0 : Nat) v _ hv).mono ?_
          rintro e w5 ⟨rfl, b5⟩
          have HA : Hid (Regs h w w5 [(k5, bl (2 + z) (0 : Nat) v), (k3, bl (2 + z) (0 : Nat) v), (k2, bl (2 + z) (0 : Nat) v), (k1, [.int .i64 (2 + z), .int .i64 (0 : Nat)])]) := H9.out.later b5
          clear H8 H9 b5 hk5 t0 t1 t2 t3 t4 t5 t6 t7 t8 t9 r0 r1 r2 r3 r4 r5 r6 r7 r8 r9
          obtain ⟨t0, t1, t2, t3, t4, t5, t6, t7, t8, t9⟩ := HA.out.2.2.1.ten
          obtain ⟨r0, r1, r2, r3, r4, r5, r6, r7, r8, r9⟩ := HA.out.1.ten
          go_wp2_with fail
          refine (same_bare (2 + z) (0 : Nat) v _ hv).mono ?_
          rintro e w6 ⟨rfl, b6⟩
          have HB : Hid (Regs h w w6 [(k5, bl (2 + z) (0 : Nat) v), (k3, bl (2 + z) (0 : Nat) v), (k2, bl (2 + z) (0 : Nat) v), (k1, [.int .i64 (2 + z), .int .i64 (0 : Nat)])]) := HA.out.later b6
          clear HA b6 t0 t1 t2 t3 t4 t5 t6 t7 t8 t9 r0 r1 r2 r3 r4 r5 r6 r7 r8 r9
          have s0 := HB.out.2.2.2.1.at 0 rfl
          have s1 := HB.out.2.2.2.1.at 1 rfl
          obtain ⟨t0, t1, t2, t3, t4, t5, t6, t7, t8, t9⟩ := HB.out.2.2.1.ten
          go_wp2
          go_ret
          exact ⟨rfl, HB.out.base.1⟩
        · have ey1 : ((y : Int) == 0) = false := by simp; omega
          have m3 : mayS (2 + z) ((y : Int) - 1) = true := mayS_of (by omega)
          have m4 : lessB (2 + z) y (2 + z) ((y : Int) - 1) = false := by simp [lessB]; omega
          have H7 : Hid (Regs h w ((w3.alloc (.cells (bl (2 + z) y v).toArray 30)).alloc (.cells #[.int .i64 (2 + z), .int .i64 ((y : Int) - 1)] 23)) [(k3, bl (2 + z) y v), (k2, bl (2 + z) y v), (k1, [.int .i64 (2 + z), .int .i64 y])]) := H6.out.later ((Below.refl _ _).alloc (Nat.le_refl _) _)
          go_wp2_with fail
          refine (lset_again (2 + z) y (2 + z) ((y : Int) - 1) v u _ m3 hv hu m4).mono ?_
          rintro e w4 ⟨rfl, b4⟩
          have H8 : Hid (Regs h w w4 [(k3, bl (2 + z) y v), (k2, bl (2 + z) y v), (k1, [.int .i64 (2 + z), .int .i64 y])]) := H7.out.later b4
          clear H5 H6 H7 b4 s0 s1 hk3 t0 t1 t2 t3 t4 t5 t6 t7 t8 t9
          obtain ⟨k5, hk5⟩ : ∃ k, w4.heap.size = k := ⟨_, rfl⟩
          have H9 : Hid (Regs h w (w4.alloc (.cells (bl (2 + z) y v).toArray 30)) [(k5, bl (2 + z) y v), (k3, bl (2 + z) y v), (k2, bl (2 + z) y v), (k1, [.int .i64 (2 + z), .int .i64 y])]) := Regs.push H8.out hk5 (bl (2 + z) y v) _
          have l4 : k1 < k5 := by have := H8.out.2.2.1.1; omega
          have l5 : k2 < k5 := by have := H8.out.2.1.1; omega
          have l6 : k3 < k5 := by have := H8.out.1.1; omega
          obtain ⟨t0, t1, t2, t3, t4, t5, t6, t7, t8, t9⟩ := H8.out.2.1.ten
          obtain ⟨r0, r1, r2, r3, r4, r5, r6, r7, r8, r9⟩ := H8.out.1.ten
          go_wp2_with (go_at_call 11; refine (num_any _ _).mono ?_; rintro e w0 ⟨rfl, rfl⟩)
          refine (same_bare (2 + z) y v _ hv).mono ?_
          rintro e w5 ⟨rfl, b5⟩
          have HA : Hid (Regs h w w5 [(k5, bl (2 + z) y v), (k3, bl (2 + z) y v), (k2, bl (2 + z) y v), (k1, [.int .i64 (2 + z), .int .i64 y])]) := H9.out.later b5
          clear H8 H9 b5 hk5 t0 t1 t2 t3 t4 t5 t6 t7 t8 t9 r0 r1 r2 r3 r4 r5 r6 r7 r8 r9
          obtain ⟨t0, t1, t2, t3, t4, t5, t6, t7, t8, t9⟩ := HA.out.2.2.1.ten
          obtain ⟨r0, r1, r2, r3, r4, r5, r6, r7, r8, r9⟩ := HA.out.1.ten
          go_wp2_with fail
          refine (same_bare (2 + z) y v _ hv).mono ?_
          rintro e w6 ⟨rfl, b6⟩
          have HB : Hid (Regs h w w6 [(k5, bl (2 + z) y v), (k3, bl (2 + z) y v), (k2, bl (2 + z) y v), (k1, [.int .i64 (2 + z), .int .i64 y])]) := HA.out.later b6
          clear HA b6 t0 t1 t2 t3 t4 t5 t6 t7 t8 t9 r0 r1 r2 r3 r4 r5 r6 r7 r8 r9
          have s0 := HB.out.2.2.2.1.at 0 rfl
          have s1 := HB.out.2.2.2.1.at 1 rfl
          obtain ⟨t0, t1, t2, t3, t4, t5, t6, t7, t8, t9⟩ := HB.out.2.2.1.ten
          go_wp2
          go_ret
          exact ⟨rfl, HB.out.base.1⟩
    · have du : decide ((256 : Int) < (u.size : Int)) = true := by simp; omega
      go_wp2
      go_ret
      exact ⟨rfl, H1'.out.base.1⟩
  · have dv : decide ((256 : Int) < (v.size : Int)) = true := by simp; omega
    go_wp2
    go_ret
    exact ⟨rfl, H1'.out.base.1⟩

theorem walk {H : Type} {enc : TypeId × Value → H} {base : Nat} {d0 : DataW H} {p0 : List MemPlace} (v0 : Value) (v u : ByteArray) (back : Int) (w : World)
    (o0 : Value.okWide Try.prog w .any base 23 v0) (h0 : DataW.Trod enc Try.prog w 0 (fun _ => true) true 23 v0 d0 p0) (hv : v.size ≤ maxLen) (hu : u.size ≤ maxLen) (hb : (Lit.int .i64 back).wf = true) :
    Calls Try.prog 6 #[v0, .string v, .string u, .int .i64 back] w fun e w' => e = .returned (.bool true) ∧ Below w.heap.size w w' := by
  obtain ⟨t, n, rfl, _, _⟩ := open_two Try.underlying23 (by kernel_rfl) rfl rfl (by kernel_rfl) (by kernel_rfl) Try.underlying3 Try.underlying3 o0 h0
  exact core t n back v u w hv hu

end Go.Proofs.Ytdcfahkcgedegaa.LwwSame
