/-
  The walk of the law PairTexts: a pair's text tells its parts, and no other pair has it.
-/
import Derived.Test.YthogncopedfmmaaDoorRegs
import Derived.Test.YthogncopedfmmaaDoorPaText
import Derived.Deep.RegionHeld3
namespace Go.Proofs.YthogncopedfmmaaDoor.PairTexts
open Go.RowKit
set_option linter.unusedVariables false

theorem rem_1000 (a : Int) : ∃ x, a.tmod 1000 = x ∧ -999 ≤ x ∧ x ≤ 999 := by
  refine ⟨_, rfl, ?_, ?_⟩
  · have := Int.tmod_lt_of_pos (-a) (b := 1000) (by omega)
    rw [Int.neg_tmod] at this
    omega
  · have := Int.tmod_lt_of_pos a (b := 1000) (by omega)
    omega

/-- What the region of the two texts keeps. -/
abbrev HeldT (w0 : World) (g : Nat) (a b c d : Int) (w : World) : Prop :=
  Hid (Reg w [(g + 1, c, d), (g, a, b)] ∧ Below w0.heap.size w0 w) ∧ w.cell? ⟨g, 0, none⟩ = some (.int .i64 a) ∧ w.cell? ⟨g, 1, none⟩ = some (.int .i64 b) ∧ w.cell? ⟨g + 1, 0, none⟩ = some (.int .i64 c) ∧ w.cell? ⟨g + 1, 1, none⟩ = some (.int .i64 d)

theorem heldT_of {w0 w : World} {g : Nat} {a b c d : Int} (h : Reg w [(g + 1, c, d), (g, a, b)]) (hb : Below w0.heap.size w0 w) : HeldT w0 g a b c d w := ⟨⟨h, hb⟩, h.2.1.2.1, h.2.1.2.2.1, h.1.2.1, h.1.2.2.1⟩

theorem heldT_later {w0 w w' : World} {g : Nat} {a b c d : Int} (hb : Below w.heap.size w w') (h : HeldT w0 g a b c d w) : HeldT w0 g a b c d w' := heldT_of (h.1.out.1.later hb) (thenB h.1.out.2 hb)

theorem text_an {x y : Int} (hx : 0 ≤ x) (hy : y < 0) : (str (Lib.decDigits x.toNat) ++ (⟨#[45]⟩ : ByteArray) ++ str (Lib.decDigits (-y).toNat) ++ (⟨#[105]⟩ : ByteArray)) = str (ptext x y) := by
  have e2 : ptext x y = ((Lib.decDigits x.toNat ++ [45]) ++ Lib.decDigits (-y).toNat) ++ [105] := by
    have h1 : ¬ y = 0 := by omega
    have h2 : ¬ 0 < y := by omega
    simp [ptext, imText, h1, h2, itoa_pos hx, itoa_below hy]
  rw [e2, ← join2s, ← join2s, ← join2s]

theorem text_ap {x y : Int} (hx : 0 ≤ x) (hy : 0 < y) : (str (Lib.decDigits x.toNat) ++ (⟨#[43]⟩ : ByteArray) ++ str (Lib.decDigits y.toNat) ++ (⟨#[105]⟩ : ByteArray)) = str (ptext x y) := by
  have e2 : ptext x y = ((Lib.decDigits x.toNat ++ [43]) ++ Lib.decDigits y.toNat) ++ [105] := by
    have h1 : ¬ y = 0 := by omega
    have h2 : 0 < y := by omega
    simp [ptext, imText, h1, h2, itoa_pos hx, itoa_pos (show (0 : Int) ≤ y by omega)]
  rw [e2, ← join2s, ← join2s, ← join2s]

theorem text_az {x y : Int} (hx : 0 ≤ x) (hy : y = 0) : str (Lib.decDigits x.toNat) = str (ptext x y) := by
  have e2 : ptext x y = Lib.decDigits x.toNat := by simp [ptext, imText, hy, itoa_pos hx]
  rw [e2]

theorem text_mn {x y : Int} (hx : x < 0) (hy : y < 0) : (((⟨#[45]⟩ : ByteArray) ++ str (Lib.decDigits (-x).toNat)) ++ (⟨#[45]⟩ : ByteArray) ++ str (Lib.decDigits (-y).toNat) ++ (⟨#[105]⟩ : ByteArray)) = str (ptext x y) := by
  have e2 : ptext x y = ((([45] ++ Lib.decDigits (-x).toNat) ++ [45]) ++ Lib.decDigits (-y).toNat) ++ [105] := by
    have h1 : ¬ y = 0 := by omega
    have h2 : ¬ 0 < y := by omega
    simp [ptext, imText, h1, h2, itoa_below hx, itoa_below hy]
  rw [e2, ← join2s, ← join2s, ← join2s, ← join2s]

theorem text_mp {x y : Int} (hx : x < 0) (hy : 0 < y) : (((⟨#[45]⟩ : ByteArray) ++ str (Lib.decDigits (-x).toNat)) ++ (⟨#[43]⟩ : ByteArray) ++ str (Lib.decDigits y.toNat) ++ (⟨#[105]⟩ : ByteArray)) = str (ptext x y) := by
  have e2 : ptext x y = ((([45] ++ Lib.decDigits (-x).toNat) ++ [43]) ++ Lib.decDigits y.toNat) ++ [105] := by
    have h1 : ¬ y = 0 := by omega
    have h2 : 0 < y := by omega
    simp [ptext, imText, h1, h2, itoa_below hx, itoa_pos (show (0 : Int) ≤ y by omega)]
  rw [e2, ← join2s, ← join2s, ← join2s, ← join2s]

theorem text_mz {x y : Int} (hx : x < 0) (hy : y = 0) : ((⟨#[45]⟩ : ByteArray) ++ str (Lib.decDigits (-x).toNat)) = str (ptext x y) := by
  have e2 : ptext x y = ([45] ++ Lib.decDigits (-x).toNat) := by simp [ptext, imText, hy, itoa_below hx]
  rw [e2, ← join2s]

set_option maxHeartbeats 4000000 in
set_option maxRecDepth 100000 in
theorem walk (a b c d : Int) (w : World) (_ : (Lit.int .i64 a).wf = true) (_ : (Lit.int .i64 b).wf = true) (_ : (Lit.int .i64 c).wf = true) (_ : (Lit.int .i64 d).wf = true) (ht : Tab w) :
    Calls Tryd.prog 6 #[.int .i64 a, .int .i64 b, .int .i64 c, .int .i64 d] w fun e w' => e = .returned (.bool true) ∧ Below w.heap.size w w' := by
  obtain ⟨x, ex, bx⟩ := rem_1000 a
  obtain ⟨y, ey, bY⟩ := rem_1000 b
  obtain ⟨p, ep, bp⟩ := rem_1000 c
  obtain ⟨q, eq, bq⟩ := rem_1000 d
  have HT : Hid (Tab w) := ht
  go_enter Tryd.func6, Tryd.ntmps6
  go_wp2_with fail
  refine (awake_any _ ht).mono ?_
  rintro e w1 ⟨rfl, k1⟩
  clear ht
  obtain ⟨g, hg⟩ : ∃ g, w1.heap.size = g := ⟨_, rfl⟩
  have H1 : Hid (HeldT w g x y p q ((w1.alloc (.cells #[.int .i64 x, .int .i64 y] 23)).alloc (.cells #[.int .i64 p, .int .i64 q] 23))) := by
    have R0 : Reg w1 [] := trivial
    have R1 := R0.push hg x y 23
    exact heldT_of (R1.push (g := g + 1) (by simp [hg]) p q 23) (thenB (thenB k1 ((Below.refl _ _).alloc (Nat.le_refl _) _)) ((Below.refl _ _).alloc (Nat.le_refl _) _))
  clear k1
  go_wp2_with fail
  clear ex ey ep eq
  go_region_held3 (HeldT w g x y p q) (first | exact heldT_later hb2 (by assumption) | exact heldT_later (Below.refl _ _).drew H1.out)
    (first
      | (go_at_call 15; refine (gtext_any _ _ _ (by omega) (by omega) (by omega) (by omega) (HT.out.later (‹HeldT w g x y p q _›).1.out.2)).mono ?_; rintro e w3 ⟨rfl, hb2⟩))
  have H3 : Hid (HeldT w g x y p q w3) := by assumption
  obtain ⟨_, f1, f2, f3, f4⟩ := id H3.out
  by_cases hx : x < 0
  · have C1 := deci_int (-x) w3 (by omega) (by omega)
    have hl1 := digits_length (z := (-x)) (by omega) (by omega)
    go_wp2_with fail
    refine C1.mono ?_
    rintro e w4 ⟨rfl, k4⟩
    have H4 : Hid (HeldT w g x y p q w4) := heldT_later k4 H3.out
    obtain ⟨_, g1, g2, g3, g4⟩ := id H4.out
    clear f1 f2 f3 f4 C1 k4
    by_cases hy : 0 < y
    · have C2 := deci_int y w4 (by omega) (by omega)
      have hl2 := digits_length (z := y) (by omega) (by omega)
      go_wp2_with fail
      refine C2.mono ?_
      rintro e w5 ⟨rfl, k5⟩
      have H5 : Hid (HeldT w g x y p q w5) := heldT_later k5 H4.out
      obtain ⟨_, f1, f2, f3, f4⟩ := id H5.out
      clear g1 g2 g3 g4 C2 k5
      have hj := text_mp hx hy
      by_cases hE : x = p ∧ y = q
      · obtain ⟨rfl, rfl⟩ := hE
        go_wp2_with (first | (go_at_call 14; refine (num_any _ _).mono ?_; rintro e wz ⟨rfl, rfl⟩) | fail)
        go_ret
        exact ⟨rfl, H5.out.1.out.2⟩
      · have hs : ¬ ptext x y = ptext p q := fun h => hE (ptext_inj h)
        have hs1 : (ptext x y == ptext p q) = false := by simpa using hs
        by_cases hxp : x = p
        · subst hxp
          have hyq : (y == q) = false := by
            have : ¬ y = q := fun h => hE ⟨rfl, h⟩
            simpa using this
          clear hE
          go_wp2_with (first | (go_at_call 14; refine (num_any _ _).mono ?_; rintro e wz ⟨rfl, rfl⟩) | fail)
          go_ret
          exact ⟨rfl, H5.out.1.out.2⟩
        · have hyq : (x == p) = false := by simpa using hxp
          clear hE
          go_wp2_with (first | (go_at_call 14; refine (num_any _ _).mono ?_; rintro e wz ⟨rfl, rfl⟩) | fail)
          go_ret
          exact ⟨rfl, H5.out.1.out.2⟩
    · by_cases hy2 : y < 0
      · have C2 := deci_int (-y) w4 (by omega) (by omega)
        have hl2 := digits_length (z := (-y)) (by omega) (by omega)
        go_wp2_with fail
        refine C2.mono ?_
        rintro e w5 ⟨rfl, k5⟩
        have H5 : Hid (HeldT w g x y p q w5) := heldT_later k5 H4.out
        obtain ⟨_, f1, f2, f3, f4⟩ := id H5.out
        clear g1 g2 g3 g4 C2 k5
        have hj := text_mn hx hy2
        by_cases hE : x = p ∧ y = q
        · obtain ⟨rfl, rfl⟩ := hE
          go_wp2_with (first | (go_at_call 14; refine (num_any _ _).mono ?_; rintro e wz ⟨rfl, rfl⟩) | fail)
          go_ret
          exact ⟨rfl, H5.out.1.out.2⟩
        · have hs : ¬ ptext x y = ptext p q := fun h => hE (ptext_inj h)
          have hs1 : (ptext x y == ptext p q) = false := by simpa using hs
          by_cases hxp : x = p
          · subst hxp
            have hyq : (y == q) = false := by
              have : ¬ y = q := fun h => hE ⟨rfl, h⟩
              simpa using this
            clear hE
            go_wp2_with (first | (go_at_call 14; refine (num_any _ _).mono ?_; rintro e wz ⟨rfl, rfl⟩) | fail)
            go_ret
            exact ⟨rfl, H5.out.1.out.2⟩
          · have hyq : (x == p) = false := by simpa using hxp
            clear hE
            go_wp2_with (first | (go_at_call 14; refine (num_any _ _).mono ?_; rintro e wz ⟨rfl, rfl⟩) | fail)
            go_ret
            exact ⟨rfl, H5.out.1.out.2⟩
      · have hj := text_mz (y := y) hx (by omega)
        by_cases hE : x = p ∧ y = q
        · obtain ⟨rfl, rfl⟩ := hE
          go_wp2_with (first | (go_at_call 14; refine (num_any _ _).mono ?_; rintro e wz ⟨rfl, rfl⟩) | fail)
          go_ret
          exact ⟨rfl, H4.out.1.out.2⟩
        · have hs : ¬ ptext x y = ptext p q := fun h => hE (ptext_inj h)
          have hs1 : (ptext x y == ptext p q) = false := by simpa using hs
          by_cases hxp : x = p
          · subst hxp
            have hyq : (y == q) = false := by
              have : ¬ y = q := fun h => hE ⟨rfl, h⟩
              simpa using this
            clear hE
            go_wp2_with (first | (go_at_call 14; refine (num_any _ _).mono ?_; rintro e wz ⟨rfl, rfl⟩) | fail)
            go_ret
            exact ⟨rfl, H4.out.1.out.2⟩
          · have hyq : (x == p) = false := by simpa using hxp
            clear hE
            go_wp2_with (first | (go_at_call 14; refine (num_any _ _).mono ?_; rintro e wz ⟨rfl, rfl⟩) | fail)
            go_ret
            exact ⟨rfl, H4.out.1.out.2⟩
  · have C1 := deci_int x w3 (by omega) (by omega)
    have hl1 := digits_length (z := x) (by omega) (by omega)
    go_wp2_with fail
    refine C1.mono ?_
    rintro e w4 ⟨rfl, k4⟩
    have H4 : Hid (HeldT w g x y p q w4) := heldT_later k4 H3.out
    obtain ⟨_, g1, g2, g3, g4⟩ := id H4.out
    clear f1 f2 f3 f4 C1 k4
    by_cases hy : 0 < y
    · have C2 := deci_int y w4 (by omega) (by omega)
      have hl2 := digits_length (z := y) (by omega) (by omega)
      go_wp2_with fail
      refine C2.mono ?_
      rintro e w5 ⟨rfl, k5⟩
      have H5 : Hid (HeldT w g x y p q w5) := heldT_later k5 H4.out
      obtain ⟨_, f1, f2, f3, f4⟩ := id H5.out
      clear g1 g2 g3 g4 C2 k5
      have hj := text_ap (by omega) hy
      by_cases hE : x = p ∧ y = q
      · obtain ⟨rfl, rfl⟩ := hE
        go_wp2_with (first | (go_at_call 14; refine (num_any _ _).mono ?_; rintro e wz ⟨rfl, rfl⟩) | fail)
        go_ret
        exact ⟨rfl, H5.out.1.out.2⟩
      · have hs : ¬ ptext x y = ptext p q := fun h => hE (ptext_inj h)
        have hs1 : (ptext x y == ptext p q) = false := by simpa using hs
        by_cases hxp : x = p
        · subst hxp
          have hyq : (y == q) = false := by
            have : ¬ y = q := fun h => hE ⟨rfl, h⟩
            simpa using this
          clear hE
          go_wp2_with (first | (go_at_call 14; refine (num_any _ _).mono ?_; rintro e wz ⟨rfl, rfl⟩) | fail)
          go_ret
          exact ⟨rfl, H5.out.1.out.2⟩
        · have hyq : (x == p) = false := by simpa using hxp
          clear hE
          go_wp2_with (first | (go_at_call 14; refine (num_any _ _).mono ?_; rintro e wz ⟨rfl, rfl⟩) | fail)
          go_ret
          exact ⟨rfl, H5.out.1.out.2⟩
    · by_cases hy2 : y < 0
      · have C2 := deci_int (-y) w4 (by omega) (by omega)
        have hl2 := digits_length (z := (-y)) (by omega) (by omega)
        go_wp2_with fail
        refine C2.mono ?_
        rintro e w5 ⟨rfl, k5⟩
        have H5 : Hid (HeldT w g x y p q w5) := heldT_later k5 H4.out
        obtain ⟨_, f1, f2, f3, f4⟩ := id H5.out
        clear g1 g2 g3 g4 C2 k5
        have hj := text_an (by omega) hy2
        by_cases hE : x = p ∧ y = q
        · obtain ⟨rfl, rfl⟩ := hE
          go_wp2_with (first | (go_at_call 14; refine (num_any _ _).mono ?_; rintro e wz ⟨rfl, rfl⟩) | fail)
          go_ret
          exact ⟨rfl, H5.out.1.out.2⟩
        · have hs : ¬ ptext x y = ptext p q := fun h => hE (ptext_inj h)
          have hs1 : (ptext x y == ptext p q) = false := by simpa using hs
          by_cases hxp : x = p
          · subst hxp
            have hyq : (y == q) = false := by
              have : ¬ y = q := fun h => hE ⟨rfl, h⟩
              simpa using this
            clear hE
            go_wp2_with (first | (go_at_call 14; refine (num_any _ _).mono ?_; rintro e wz ⟨rfl, rfl⟩) | fail)
            go_ret
            exact ⟨rfl, H5.out.1.out.2⟩
          · have hyq : (x == p) = false := by simpa using hxp
            clear hE
            go_wp2_with (first | (go_at_call 14; refine (num_any _ _).mono ?_; rintro e wz ⟨rfl, rfl⟩) | fail)
            go_ret
            exact ⟨rfl, H5.out.1.out.2⟩
      · have hj := text_az (y := y) (by omega) (by omega)
        by_cases hE : x = p ∧ y = q
        · obtain ⟨rfl, rfl⟩ := hE
          go_wp2_with (first | (go_at_call 14; refine (num_any _ _).mono ?_; rintro e wz ⟨rfl, rfl⟩) | fail)
          go_ret
          exact ⟨rfl, H4.out.1.out.2⟩
        · have hs : ¬ ptext x y = ptext p q := fun h => hE (ptext_inj h)
          have hs1 : (ptext x y == ptext p q) = false := by simpa using hs
          by_cases hxp : x = p
          · subst hxp
            have hyq : (y == q) = false := by
              have : ¬ y = q := fun h => hE ⟨rfl, h⟩
              simpa using this
            clear hE
            go_wp2_with (first | (go_at_call 14; refine (num_any _ _).mono ?_; rintro e wz ⟨rfl, rfl⟩) | fail)
            go_ret
            exact ⟨rfl, H4.out.1.out.2⟩
          · have hyq : (x == p) = false := by simpa using hxp
            clear hE
            go_wp2_with (first | (go_at_call 14; refine (num_any _ _).mono ?_; rintro e wz ⟨rfl, rfl⟩) | fail)
            go_ret
            exact ⟨rfl, H4.out.1.out.2⟩

end Go.Proofs.YthogncopedfmmaaDoor.PairTexts
