/-
  Package gauss: Text tells a pair in digits; the document's own answer to it.
-/
import Derived.Test.YtgkddimijmnpcaaGreatDoorZPack3
import Derived.Test.YtgkddimijmnpcaaGreatDoorZItoa
import Derived.Test.YtgkddimijmnpcaaGreatDoorZPack2
namespace Go.Proofs.YtgkddimijmnpcaaGreatDoor
open Go.RowKit
set_option linter.unusedVariables false

/-- What stands behind the first number. -/
def imText (y : Int) : List UInt8 := if y = 0 then [] else (if 0 < y then [43] else []) ++ (Lib.itoa y ++ [105])

/-- A pair's text. -/
def ptext (x y : Int) : List UInt8 := Lib.itoa x ++ imText y

/-- A list of bytes as a string. -/
abbrev str (l : List UInt8) : ByteArray := ⟨l.toArray⟩

theorem join2s (a b : List UInt8) : (str a ++ str b) = str (a ++ b) := join2 a b

theorem ret_str {a b : ByteArray} (h : a = b) : Ending.returned (.string a) = .returned (.string b) := by rw [h]

theorem itoa_pos {x : Int} (h : 0 ≤ x) : Lib.itoa x = Lib.decDigits x.toNat := by unfold Lib.itoa; rw [if_neg (by omega)]
theorem itoa_below {x : Int} (h : x < 0) : Lib.itoa x = 45 :: Lib.decDigits (-x).toNat := by
  unfold Lib.itoa; rw [if_pos h]; congr 2; omega

theorem digits_length {z : Int} (h0 : 0 ≤ z) (h1 : z ≤ 9223372036854775807) : (Lib.decDigits z.toNat).length ≤ 21 := by
  have := Lib.itoa_length_le z (by omega) h1
  rwa [itoa_pos h0] at this

theorem deci_int (z : Int) (w : World) (h0 : 0 ≤ z) (h1 : z ≤ 9223372036854775807) :
    Calls Tryz.prog 89 #[.int .i64 z] w fun e w' => e = .returned (.string (str (Lib.decDigits z.toNat))) ∧ Below w.heap.size w w' := by
  have := deci_any z.toNat w (by omega)
  rwa [Int.toNat_of_nonneg h0] at this

theorem rnumber_any (x : Int) (w : World) (h0 : -9223372036854775807 ≤ x) (h1 : x ≤ 9223372036854775807) :
    Calls Tryz.prog 36 #[.int .i64 x] w fun e w' => e = .returned (.string (str (Lib.itoa x))) ∧ Below w.heap.size w w' := by
  by_cases hx : x < 0
  · have C := deci_int (-x) w (by omega) (by omega)
    have hl2 := digits_length (z := -x) (by omega) (by omega)
    go_enter Tryz.func36, Tryz.ntmps36
    go_wp2_with fail
    refine C.mono ?_
    rintro e w1 ⟨rfl, k1⟩
    clear C
    go_wp2_with fail
    go_ret
    exact ⟨ret_str (by rw [itoa_below hx]; exact join2s [45] _), k1⟩
  · have C := deci_int x w (by omega) (by omega)
    go_enter Tryz.func36, Tryz.ntmps36
    go_wp2_with fail
    refine C.mono ?_
    rintro e w1 ⟨rfl, k1⟩
    clear C
    go_wp2_with fail
    go_ret
    exact ⟨ret_str (by rw [itoa_pos (by omega)]), k1⟩

end Go.Proofs.YtgkddimijmnpcaaGreatDoor

