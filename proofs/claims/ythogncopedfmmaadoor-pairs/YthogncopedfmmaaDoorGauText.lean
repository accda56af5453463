/-
  Package gauss: Text tells a pair in digits; the document's own answer to it.
-/
import Derived.Test.YthogncopedfmmaaDoorGau
import Derived.Test.YthogncopedfmmaaDoorItoa
import Derived.Test.YthogncopedfmmaaDoorDeci
import Derived.Test.YthogncopedfmmaaDoorStrs
namespace Go.Proofs.YthogncopedfmmaaDoor
open Go.RowKit
set_option linter.unusedVariables false

/-- What stands behind the first number. -/
def imText (y : Int) : List UInt8 := if y = 0 then [] else (if 0 < y then [43] else []) ++ (Lib.itoa y ++ [105])

/-- A pair's text. -/
def ptext (x y : Int) : List UInt8 := Lib.itoa x ++ imText y

/-- A list of bytes as a string. -/
abbrev str (l : List UInt8) : ByteArray := ⟨l.toArray⟩

theorem join2s (a b : List UInt8) : (str a ++ str b) = str (a ++ b) := join2 a b

theorem ret_str {a b : ByteArray} (h : a = b) : Ending.returned (.string a) = .returned (.string b) := by rw [h]

theorem itoa_pos {x : Int} (h : 0 ≤ x) : Lib.itoa x = Lib.decDigits x.toNat := by unfold Lib.itoa; rw [if_neg (by omega)]
theorem itoa_below {x : Int} (h : x < 0) : Lib.itoa x = 45 :: Lib.decDigits (-x).toNat := by
  unfold Lib.itoa; rw [if_pos h]; congr 2; omega

theorem digits_length {z : Int} (h0 : 0 ≤ z) (h1 : z ≤ 9223372036854775807) : (Lib.decDigits z.toNat).length ≤ 21 := by
  have := Lib.itoa_length_le z (by omega) h1
  rwa [itoa_pos h0] at this

theorem deci_int (z : Int) (w : World) (h0 : 0 ≤ z) (h1 : z ≤ 9223372036854775807) :
    Calls Tryd.prog 19 #[.int .i64 z] w fun e w' => e = .returned (.string (str (Lib.decDigits z.toNat))) ∧ Below w.heap.size w w' := by
  have := deci_any z.toNat w (by omega)
  rwa [Int.toNat_of_nonneg h0] at this

set_option maxHeartbeats 400000 in
theorem gtext_any (x y : Int) (w : World) (hx0 : -9223372036854775808 ≤ x) (hx1 : x ≤ 9223372036854775807) (hy0 : -9223372036854775808 ≤ y) (hy1 : y ≤ 9223372036854775807) (ht : Tab w) :
    Calls Tryd.prog 15 #[pv x y] w fun e w' => e = .returned (.string (str (ptext x y))) ∧ Below w.heap.size w w' := by
  have B0 : Below w.heap.size w (w.alloc (.cells #[.int .i64 x, .int .i64 y] 23)) := (Below.refl _ _).alloc (Nat.le_refl _) _
  have hlx := Lib.itoa_length_le x (by omega) hx1
  have hly := Lib.itoa_length_le y (by omega) hy1
  have C := itoa_any x (w.alloc (.cells #[.int .i64 x, .int .i64 y] 23)) hx0 hx1 (ht.later B0)
  have T0 := two_new w x y 23
  obtain ⟨n, hn⟩ : ∃ n, w.heap.size = n := ⟨_, rfl⟩
  go_enter Tryd.func15, Tryd.ntmps15
  go_wp2_with fail
  refine C.mono ?_
  rintro e w1 ⟨rfl, k1⟩
  have T1 := T0.later k1
  have B1 : Hid (Below w.heap.size w w1 ∧ Tab w1) := ⟨thenB B0 k1, (ht.later B0).later k1⟩
  rw [hn] at T1
  obtain ⟨_, t1, t2, _, _⟩ := T1
  clear C T0 k1 B0 ht
  by_cases hy : y = 0
  · subst hy
    go_wp2_with fail
    go_ret
    exact ⟨ret_str (by simp [ptext, imText]), B1.out.1⟩
  · have hd : (y == 0) = false := by simpa using hy
    have C2 := itoa_any y w1 hy0 hy1 B1.out.2
    by_cases hp : 0 < y
    · go_wp2_with fail
      refine C2.mono ?_
      rintro e w2 ⟨rfl, k2⟩
      have B2 := thenB B1.out.1 k2
      clear C2 k2 t1 t2
      go_wp2_with fail
      go_ret
      exact ⟨ret_str (by rw [join2s, join2s, join2s]; simp [ptext, imText, hy, hp]), B2⟩
    · go_wp2_with fail
      refine C2.mono ?_
      rintro e w2 ⟨rfl, k2⟩
      have B2 := thenB B1.out.1 k2
      clear C2 k2 t1 t2
      go_wp2_with fail
      go_ret
      exact ⟨ret_str (by rw [join2s, join2s]; simp [ptext, imText, hy, hp]), B2⟩

theorem rnumber_any (x : Int) (w : World) (h0 : -9223372036854775807 ≤ x) (h1 : x ≤ 9223372036854775807) :
    Calls Tryd.prog 26 #[.int .i64 x] w fun e w' => e = .returned (.string (str (Lib.itoa x))) ∧ Below w.heap.size w w' := by
  by_cases hx : x < 0
  · have C := deci_int (-x) w (by omega) (by omega)
    have hl2 := digits_length (z := -x) (by omega) (by omega)
    go_enter Tryd.func26, Tryd.ntmps26
    go_wp2_with fail
    refine C.mono ?_
    rintro e w1 ⟨rfl, k1⟩
    clear C
    go_wp2_with fail
    go_ret
    exact ⟨ret_str (by rw [itoa_below hx]; exact join2s [45] _), k1⟩
  · have C := deci_int x w (by omega) (by omega)
    go_enter Tryd.func26, Tryd.ntmps26
    go_wp2_with fail
    refine C.mono ?_
    rintro e w1 ⟨rfl, k1⟩
    clear C
    go_wp2_with fail
    go_ret
    exact ⟨ret_str (by rw [itoa_pos (by omega)]), k1⟩

set_option maxHeartbeats 400000 in
theorem rtext_any (x y : Int) (w : World) (hx0 : -9223372036854775807 ≤ x) (hx1 : x ≤ 9223372036854775807) (hy0 : -9223372036854775807 ≤ y) (hy1 : y ≤ 9223372036854775807) :
    Calls Tryd.prog 16 #[pv x y] w fun e w' => e = .returned (.string (str (ptext x y))) ∧ Below w.heap.size w w' := by
  have B0 : Below w.heap.size w (w.alloc (.cells #[.int .i64 x, .int .i64 y] 23)) := (Below.refl _ _).alloc (Nat.le_refl _) _
  have hlx := Lib.itoa_length_le x (by omega) hx1
  have hly := Lib.itoa_length_le y (by omega) hy1
  have C := rnumber_any x (w.alloc (.cells #[.int .i64 x, .int .i64 y] 23)) hx0 hx1
  have T0 := two_new w x y 23
  obtain ⟨n, hn⟩ : ∃ n, w.heap.size = n := ⟨_, rfl⟩
  go_enter Tryd.func16, Tryd.ntmps16
  go_wp2_with fail
  refine C.mono ?_
  rintro e w1 ⟨rfl, k1⟩
  have T1 := T0.later k1
  have B1 : Hid (Below w.heap.size w w1) := thenB B0 k1
  rw [hn] at T1
  obtain ⟨_, t1, t2, _, _⟩ := T1
  clear C T0 k1 B0
  by_cases hp : 0 < y
  · have C2 := deci_int y w1 (by omega) (by omega)
    have hl2 := digits_length (z := y) (by omega) (by omega)
    go_wp2_with fail
    refine C2.mono ?_
    rintro e w2 ⟨rfl, k2⟩
    have B2 := thenB B1.out k2
    clear C2 k2 t1 t2
    go_wp2_with fail
    go_ret
    exact ⟨ret_str (by
      have e : ¬ y = 0 := by omega
      have e2 : ptext x y = ((Lib.itoa x ++ [43]) ++ Lib.decDigits y.toNat) ++ [105] := by rw [← itoa_pos (by omega)]; simp [ptext, imText, e, hp]
      rw [e2, ← join2s, ← join2s, ← join2s]), B2⟩
  · by_cases hq : y < 0
    · have C2 := deci_int (-y) w1 (by omega) (by omega)
      have hl2 := digits_length (z := -y) (by omega) (by omega)
      go_wp2_with fail
      refine C2.mono ?_
      rintro e w2 ⟨rfl, k2⟩
      have B2 := thenB B1.out k2
      clear C2 k2 t1 t2
      go_wp2_with fail
      go_ret
      exact ⟨ret_str (by
        have e : ¬ y = 0 := by omega
        have e2 : ptext x y = ((Lib.itoa x ++ [45]) ++ Lib.decDigits (-y).toNat) ++ [105] := by simp [ptext, imText, e, hp, itoa_below hq]
        rw [e2, ← join2s, ← join2s, ← join2s]), B2⟩
    · have hy : y = 0 := by omega
      subst hy
      go_wp2_with fail
      go_ret
      exact ⟨ret_str (by simp [ptext, imText]), B1.out⟩

end Go.Proofs.YthogncopedfmmaaDoor
