/-
  The walk of the law VecHas: a vector has just the dots up to its numbers.
-/
import Derived.Test.YtbindfgjdocpoaaAwake4
namespace Go.Proofs.Ytbindfgjdocpoaa.VecHas
open Go.RowKit
set_option linter.unusedVariables false

theorem has_s {ao : Option Addr} {cap : Nat} {l : List Int} {k s : Int} {w0 w : World} {b : Bool} (hW : Below w0.heap.size w0 w) (hr : RowAt w0 ao l) (h : b = true ↔ Ve.Has l k s) :
    Calls Try.prog 18 #[.slice ao l.length cap, .agg #[.int .i64 k, .int .i64 s]] w fun e w' => e = .returned (.bool b) ∧ Below w0.heap.size w0 w' :=
  (has_any ao cap l k s w (hr.later hW) h).mono fun e w' ⟨he, hw⟩ => ⟨he, thenB hW hw⟩

theorem has_nil {k s : Int} {w0 w : World} (hW : Below w0.heap.size w0 w) :
    Calls Try.prog 18 #[.slice none 0 0, .agg #[.int .i64 k, .int .i64 s]] w fun e w' => e = .returned (.bool false) ∧ Below w0.heap.size w0 w' :=
  has_s (l := []) hW (RowAt.nil _ _) (by simp [Ve.Has]; omega)

/-- The world behind 'd := api.Dot{Node: node, Seq: seq}'. -/
def boxed (w : World) (k s : Int) : World := w.alloc (.cells #[.int .i64 k, .int .i64 s] 24)

theorem boxed_below (w : World) (k s : Int) : Below w.heap.size w (boxed w k s) := below_alloc w _

theorem boxed_cells (w : World) (k s : Int) : (boxed w k s).cell? ⟨w.heap.size, 0, none⟩ = some (.int .i64 k) ∧ (boxed w k s).cell? ⟨w.heap.size, 1, none⟩ = some (.int .i64 s) := by
  simp [boxed, World.cell?_alloc_at]

theorem boxed_size (w : World) (k s : Int) : (boxed w k s).heap.size = w.heap.size + 1 := by simp [boxed]

theorem no_of {r : Bool} {P : Prop} (h : r = true ↔ P) (hn : ¬ P) : r = false := by
  cases r with
  | false => rfl
  | true => exact absurd (h.1 rfl) hn

/-- The five ways of the question. -/
theorem five (a : List Int) (k s : Int) {r : Bool} (h : r = true ↔ Ve.Has a k s) :
    (k < 0 ∧ r = false) ∨ (0 ≤ k ∧ (a.length : Int) ≤ k ∧ r = false) ∨
      ∃ j : Nat, k = (j : Int) ∧ j < a.length ∧ ((s < 1 ∧ r = false) ∨ (1 ≤ s ∧ a.getD j 0 < s ∧ r = false) ∨ (1 ≤ s ∧ s ≤ a.getD j 0 ∧ r = true)) := by
  by_cases h0 : k < 0
  · exact Or.inl ⟨h0, no_of h (fun hh => by have := hh.1; omega)⟩
  · by_cases h2 : (a.length : Int) ≤ k
    · exact Or.inr (Or.inl ⟨by omega, h2, no_of h (fun hh => by have := hh.2.1; omega)⟩)
    · obtain ⟨j, rfl⟩ : ∃ j : Nat, k = (j : Int) := ⟨k.toNat, by omega⟩
      refine Or.inr (Or.inr ⟨j, rfl, by omega, ?_⟩)
      by_cases h3 : s < 1
      · exact Or.inl ⟨h3, no_of h (fun hh => by have := hh.2.2.1; omega)⟩
      · by_cases h4 : a.getD j 0 < s
        · exact Or.inr (Or.inl ⟨by omega, h4, no_of h (fun hh => by have := hh.2.2.2; simp only [Int.toNat_natCast] at this; omega)⟩)
        · exact Or.inr (Or.inr ⟨by omega, by omega, h.2 ⟨by omega, by omega, by omega, by simp only [Int.toNat_natCast]; omega⟩⟩)

theorem has_x (a : List Int) {i : Nat} (hi : i < a.length) (hx : 0 < a.getD i 0) : true = true ↔ Ve.Has a (i : Int) (a.getD i 0) := by
  simp only [true_iff]
  exact ⟨by omega, by omega, by omega, by simp⟩

theorem has_no (a : List Int) {i : Nat} {z : Int} (hz : a.getD i 0 < z) : false = true ↔ Ve.Has a (i : Int) z := by
  simp only [Bool.false_eq_true, false_iff]
  intro h
  have := h.2.2.2
  simp only [Int.toNat_natCast] at this
  omega

theorem has_zero (a : List Int) (i : Nat) : false = true ↔ Ve.Has a (i : Int) 0 := by
  simp only [Bool.false_eq_true, false_iff]
  intro h
  have := h.2.2.1
  omega

set_option maxHeartbeats 4000000 in
set_option maxRecDepth 100000 in
theorem core (ao : Option Addr) (ca : Nat) (a : List Int) (k s : Int) (w : World) (ha : RowAt w ao a) (hla : a.length ≤ maxLen) :
    Calls Try.prog 5 #[.slice ao a.length ca, .int .i64 k, .int .i64 s] w fun e w' => e = .returned (.bool true) ∧ Below w.heap.size w w' := by
  obtain ⟨r, hr⟩ := Ve.bool_of (Ve.Has a k s)
  have h5 := five a k s hr
  have HA : Hid (RowAt w ao a) := ha
  have HR : Hid (r = true ↔ Ve.Has a k s) := hr
  clear ha hr
  unfold maxLen at hla
  go_enter Try.func5, Try.ntmps5
  go_wp2_with fail
  refine (awake_any _).mono ?_
  rintro e w1 ⟨rfl, h1⟩
  have KB : Hid (Below w.heap.size w (boxed w1 k s) ∧ (boxed w1 k s).cell? ⟨w1.heap.size, 0, none⟩ = some (.int .i64 k) ∧ (boxed w1 k s).cell? ⟨w1.heap.size, 1, none⟩ = some (.int .i64 s) ∧ w1.heap.size < (boxed w1 k s).heap.size) :=
    ⟨thenB h1 (boxed_below w1 k s), (boxed_cells w1 k s).1, (boxed_cells w1 k s).2, by rw [boxed_size]; omega⟩
  have C := fun (w2 : World) (h2 : Below (boxed w1 k s).heap.size (boxed w1 k s) w2) => (show Hid (w2.cell? ⟨w1.heap.size, 0, none⟩ = some (.int .i64 k) ∧ w2.cell? ⟨w1.heap.size, 1, none⟩ = some (.int .i64 s) ∧ w1.heap.size < w2.heap.size ∧ Below w.heap.size w w2) from
    ⟨(h2.cell (by exact KB.out.2.2.2)).trans KB.out.2.1, (h2.cell (by exact KB.out.2.2.2)).trans KB.out.2.2.1, Nat.lt_of_lt_of_le KB.out.2.2.2 h2.size, thenB KB.out.1 h2⟩)
  rcases h5 with ⟨h0, rfl⟩ | ⟨h0, h2, rfl⟩ | ⟨j, rfl, hj, h5⟩
  case' inl =>
    have hd : decide (0 ≤ k) = false := by simp; omega
    go_wp2_with fail
    refine (has_s (w0 := boxed w1 k s) (Below.refl _ _) (HA.out.later KB.out.1) HR.out).mono ?_
    rintro e w2 ⟨rfl, h2⟩
    have HD := C w2 h2
    clear hd h0
  case' inr.inl =>
    have hd : decide (k < (a.length : Int)) = false := by simp; omega
    go_wp2_with fail
    refine (has_s (w0 := boxed w1 k s) (Below.refl _ _) (HA.out.later KB.out.1) HR.out).mono ?_
    rintro e w2 ⟨rfl, h2⟩
    have HD := C w2 h2
    clear hd h0
  case' inr.inr =>
    obtain ⟨bk, off, rfl, hb, hc⟩ := HA.out (by omega)
    obtain ⟨x, hx⟩ : ∃ x, x = a.getD j 0 := ⟨_, rfl⟩
    have hbb : bk < w1.heap.size := Nat.lt_of_lt_of_le hb h1.size
    have hcy : w1.cell? ⟨bk, off + j, none⟩ = some (.int .i64 x) := by
      rw [h1.cell (by exact hb), hc j hj, hx]
    rw [← hx] at h5
    clear hx hc
    rcases h5 with ⟨h3, rfl⟩ | ⟨h3, h4, rfl⟩ | ⟨h3, h4, rfl⟩
  case' inr.inr.inl =>
    have hd : decide (1 ≤ s) = false := by simp; omega
    go_wp2_with fail
    refine (has_s (w0 := boxed w1 j s) (Below.refl _ _) (HA.out.later KB.out.1) HR.out).mono ?_
    rintro e w2 ⟨rfl, h2⟩
    have HD := C w2 h2
    clear hd h3
  case' inr.inr.inr.inl =>
    have hd : decide (s ≤ x) = false := by simp; omega
    go_wp2_with fail
    refine (has_s (w0 := boxed w1 j s) (Below.refl _ _) (HA.out.later KB.out.1) HR.out).mono ?_
    rintro e w2 ⟨rfl, h2⟩
    have HD := C w2 h2
    clear hd h3 h4
  case' inr.inr.inr.inr =>
    go_wp2_with fail
    refine (has_s (w0 := boxed w1 j s) (Below.refl _ _) (HA.out.later KB.out.1) (b := true) ⟨fun _ => HR.out.1 trivial, fun _ => rfl⟩).mono ?_
    rintro e w2 ⟨rfl, h2⟩
    have HD := C w2 h2
    clear h3 h4
  all_goals
    (clear C KB h1 HR
     go_wp2
     go_loopg [9] 20 (fun n iv wr => ∃ i : Nat, i + n = 20 ∧ i ≤ a.length ∧ iv = .int .i64 i ∧ Below w2.heap.size w2 wr)
     case atStart => exact ⟨0, by omega, by omega, rfl, Below.refl _ _⟩
     case round =>
       obtain ⟨i, hin, hi, rfl, hbel⟩ := hrel
       have hbw : Below w.heap.size w wr := thenB HD.out.2.2.2 hbel
       by_cases hlt : i < a.length ∧ i < 20
       · obtain ⟨hi1, hi2⟩ := hlt
         obtain ⟨bk, off, eo, hb, hc⟩ := HA.out (by omega)
         cases eo
         obtain ⟨x, hx⟩ : ∃ x, x = a.getD i 0 := ⟨_, rfl⟩
         have hcx : wr.cell? ⟨bk, off + i, none⟩ = some (.int .i64 x) := by
           rw [hbw.cell (by exact hb), hc i hi1, hx]
         have T1 : Hid (0 < x → Ve.Has a (i : Int) x) := fun h => by rw [hx] at h ⊢; exact (has_x a hi1 h).1 rfl
         have T2 : Hid (∀ z, x < z → (false = true ↔ Ve.Has a (i : Int) z)) := fun z h => by rw [hx] at h; exact has_no a h
         clear hx hc
         have HW : Hid (RowAt wr (some ⟨bk, off, none⟩) a) := HA.out.later hbw
         have hbx : bk < wr.heap.size := Nat.lt_of_lt_of_le hb hbw.size
         by_cases h0 : 0 < x
         · by_cases hm : x < 1048575
           · go_wp2_with fail
             refine (has_s (Below.refl _ _) HW.out (b := true) ⟨fun _ => T1.out h0, fun _ => rfl⟩).mono ?_
             rintro e w3 ⟨rfl, h3⟩
             have hcx3 : w3.cell? ⟨bk, off + i, none⟩ = some (.int .i64 x) := (h3.cell (by exact hbx)).trans hcx
             go_wp2_with fail
             refine (has_s h3 HW.out (T2.out _ (by omega))).mono ?_
             rintro e w4 ⟨rfl, h4⟩
             go_wp2_with fail
             refine (has_s h4 HW.out (has_zero a i)).mono ?_
             rintro e w5 ⟨rfl, h5⟩
             go_wp2
             go_roundg (gk - 1)
             case measure => omega
             case rel => exact ⟨i + 1, by omega, by omega, by go_num, thenB hbel h5⟩
           · have hm2 : 1048575 ≤ x := by omega
             go_wp2_with fail
             refine (has_s (Below.refl _ _) HW.out (b := true) ⟨fun _ => T1.out h0, fun _ => rfl⟩).mono ?_
             rintro e w3 ⟨rfl, h3⟩
             have hcx3 : w3.cell? ⟨bk, off + i, none⟩ = some (.int .i64 x) := (h3.cell (by exact hbx)).trans hcx
             go_wp2_with fail
             refine (has_s h3 HW.out (has_zero a i)).mono ?_
             rintro e w5 ⟨rfl, h5⟩
             go_wp2
             go_roundg (gk - 1)
             case measure => omega
             case rel => exact ⟨i + 1, by omega, by omega, by go_num, thenB hbel h5⟩
         · have h0' : x ≤ 0 := by omega
           have hm : x < 1048575 := by omega
           go_wp2_with fail
           refine (has_s (Below.refl _ _) HW.out (T2.out _ (by omega))).mono ?_
           rintro e w4 ⟨rfl, h4⟩
           go_wp2_with fail
           refine (has_s h4 HW.out (has_zero a i)).mono ?_
           rintro e w5 ⟨rfl, h5⟩
           go_wp2
           go_roundg (gk - 1)
           case measure => omega
           case rel => exact ⟨i + 1, by omega, by omega, by go_num, thenB hbel h5⟩
       · have hc0 : wr.cell? ⟨w1.heap.size, 0, none⟩ = some (.int .i64 _) := (hbel.cell (by exact HD.out.2.2.1)).trans HD.out.1
         have hc1 : wr.cell? ⟨w1.heap.size, 1, none⟩ = some (.int .i64 s) := (hbel.cell (by exact HD.out.2.2.1)).trans HD.out.2.1
         by_cases hd : i < a.length
         · have hd1 : decide ((i : Int) < (a.length : Int)) = true := by simp; omega
           have hd2 : decide ((i : Int) < 20) = false := by simp; omega
           go_wp2_with fail
           refine (has_nil (Below.refl _ _)).mono ?_
           rintro e w3 ⟨rfl, h3⟩
           go_wp2
           go_ret
           exact ⟨rfl, thenB hbw h3⟩
         · have hd1 : decide ((i : Int) < (a.length : Int)) = false := by simp; omega
           go_wp2_with fail
           refine (has_nil (Below.refl _ _)).mono ?_
           rintro e w3 ⟨rfl, h3⟩
           go_wp2
           go_ret
           exact ⟨rfl, thenB hbw h3⟩)

theorem walk {H : Type} {enc : TypeId × Value → H} {base : Nat} {d0 : DataW H} {p0 : List MemPlace} (v0 : Value) (k s : Int) (w : World)
    (o0 : Value.okWide Try.prog w .any base 22 v0) (h0 : DataW.Trod enc Try.prog w 0 (fun _ => true) true 22 v0 d0 p0) (hk : (Lit.int .i64 k).wf = true) (hs : (Lit.int .i64 s).wf = true) :
    Calls Try.prog 5 #[v0, .int .i64 k, .int .i64 s] w fun e w' => e = .returned (.bool true) ∧ Below w.heap.size w w' := by
  obtain ⟨a, ao, ca, rfl, la, ha, _⟩ := isInts_of o0 h0
  exact core ao ca a k s w ha la

end Go.Proofs.Ytbindfgjdocpoaa.VecHas
