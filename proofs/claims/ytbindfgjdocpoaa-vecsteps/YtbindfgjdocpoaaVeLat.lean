/-
  Vectors as plain lists: the greater one is the least that both are under, the lesser one the greatest that is under both.
-/
import Derived.Test.YtbindfgjdocpoaaVe
namespace Go.Proofs.Ytbindfgjdocpoaa.Ve
set_option linter.unusedVariables false

theorem may_at {l : List Int} {n : Int} (h : May l n) {i : Nat} (hi : i < l.length) : 0 ≤ l.getD i 0 ∧ l.getD i 0 ≤ 1048575 := h.2.2.2 i hi

theorem mk_comm (f : Int → Int → Int) (hf : ∀ x y, f x y = f y x) {a b : List Int} (h : b.length = a.length) : mk f b a = mk f a b := by
  apply same
  · rw [mk_length, mk_length, h]
  · intro i hi
    rw [mk_length] at hi
    rw [mk_at _ _ _ hi, mk_at _ _ _ (by omega), hf]

theorem mk_self (f : Int → Int → Int) (hf : ∀ x, f x x = x) (a : List Int) : mk f a a = a := by
  apply same
  · rw [mk_length]
  · intro i hi
    rw [mk_length] at hi
    rw [mk_at _ _ _ hi, hf]

theorem alike_self {a : List Int} (h : May a a.length) : Alike a a := ⟨h, h⟩

theorem alike_of {a b : List Int} (ha : May a a.length) (hb : May b b.length) (h : b.length = a.length) : Alike a b := ⟨ha, by rw [← h]; exact hb⟩

theorem may_len {l : List Int} {n : Int} (h : May l n) : May l l.length := by
  have := h.2.2.1
  rw [this]; exact h

theorem under_max {a b : List Int} (h : Alike a b) : Under a (mk max a b) := by
  refine ⟨⟨h.1, alike_max h⟩, fun i hi => ?_⟩
  rw [mk_at _ _ _ hi]; omega

theorem under_max2 {a b : List Int} (h : Alike a b) : Under b (mk max a b) := by
  have e := alike_length h
  refine ⟨⟨may_len h.2, by rw [e]; exact alike_max h⟩, fun i hi => ?_⟩
  rw [mk_at _ _ _ (by omega)]; omega

theorem min_under {a b : List Int} (h : Alike a b) : Under (mk min a b) a := by
  refine ⟨⟨by rw [mk_length]; exact alike_min h, by rw [mk_length]; exact h.1⟩, fun i hi => ?_⟩
  rw [mk_length] at hi
  rw [mk_at _ _ _ hi]; omega

theorem min_under2 {a b : List Int} (h : Alike a b) : Under (mk min a b) b := by
  refine ⟨⟨by rw [mk_length]; exact alike_min h, by rw [mk_length]; exact h.2⟩, fun i hi => ?_⟩
  rw [mk_length] at hi
  rw [mk_at _ _ _ hi]; omega

theorem max_least {a b c : List Int} (h : Alike a b) (h1 : Under a c) (h2 : Under b c) : Under (mk max a b) c := by
  refine ⟨⟨by rw [mk_length]; exact alike_max h, by rw [mk_length]; exact h1.1.2⟩, fun i hi => ?_⟩
  rw [mk_length] at hi
  rw [mk_at _ _ _ hi]
  have e := alike_length h
  have := h1.2 i hi
  have := h2.2 i (by omega)
  omega

theorem min_most {a b c : List Int} (h : Alike a b) (h1 : Under c a) (h2 : Under c b) : Under c (mk min a b) := by
  have e := alike_length h1.1
  refine ⟨⟨h1.1.1, by rw [← e]; exact alike_min h⟩, fun i hi => ?_⟩
  rw [mk_at _ _ _ (by omega)]
  have := h1.2 i hi
  have := h2.2 i hi
  omega

theorem under_iff {a b : List Int} (h : Alike a b) : Under a b ↔ mk max a b = b := by
  have e := alike_length h
  constructor
  · intro hu
    apply same
    · rw [mk_length, e]
    · intro i hi
      rw [mk_length] at hi
      rw [mk_at _ _ _ hi]
      have := hu.2 i hi
      omega
  · intro hm
    refine ⟨h, fun i hi => ?_⟩
    have := mk_at max a b hi
    rw [hm] at this
    omega

end Go.Proofs.Ytbindfgjdocpoaa.Ve
