/-
  Insert, Erase, Compact, Values, At and the document's own, whatever comes.
-/
import Derived.Test.YtaakhpibdpgjpaaRefI10
import Derived.Test.YtaakhpibdpgjpaaLists10
namespace Go.Proofs.Ytaakhpibdpgjpaa
open Go.RowKit Go.Shelf
set_option linter.unusedVariables false
set_option linter.unusedSimpArgs false

/-- What Insert answers. -/
def ansI (c : Ce) (e : L5) (d : D2) : Ce × Int := if (decide (c.kind = 3) && okX c.elems e) = true then (match insL c.elems e d with
  | some L => (cL c L, 0)
  | none => (ce0, 1001)) else (ce0, 1000)
/-- What Erase answers. -/
def ansR (c : Ce) (d : D2) : Ce × Int := if c.kind = 3 then (match eraL c.elems d with
  | some L => (cL c L, 0)
  | none => (ce0, 1001)) else (ce0, 1000)
/-- What Compact answers. -/
def ansK (c : Ce) : Ce := if c.kind = 3 then cL c (liveL c.elems) else ce0
def numK (c : Ce) : Int := if c.kind = 3 then 0 else 1000
/-- What Values answers. -/
def ansX (c : Ce) : List ByteArray := if c.kind = 3 then valsX c.elems else []
/-- What At answers. -/
def ansA (c : Ce) (k : Int) : D2 × Int := if c.kind = 3 then atNum c.elems k else ((0, 0), 1000)

theorem ins_all (c : Ce) (p : Pl) (e : L5) (d : D2) (w : World) (hr : CRow w c p) (hf : Fit c) (hv : e.val.size ≤ maxLen) :
    Calls Try.prog 10 #[ceV c p, lv e, dv d] w fun r w' => ∃ q, r = .returned (.tuple #[ceV (ansI c e d).1 q, .int .i64 (ansI c e d).2]) ∧ COwn w.heap.size w' (ansI c e d).1 q ∧ Below w.heap.size w w' := by
  unfold ansI
  by_cases hb : (decide (c.kind = 3) && okX c.elems e) = true
  · rw [if_pos hb]
    simp only [Bool.and_eq_true, decide_eq_true_eq] at hb
    cases hi : insL c.elems e d with
    | some L => exact ins_yes c p e d L w hr hf hb.1 hb.2 hi
    | none =>
      refine (ins_range c p e d w hr hf hb.1 hb.2 (insL_none.1 hi)).mono ?_
      rintro r w1 ⟨he, b⟩
      exact ⟨pl0, he, own_none0 _ _, b⟩
  · rw [if_neg hb]
    refine (ins_no c p e d w hr hf hv (by simpa using hb)).mono ?_
    rintro r w1 ⟨he, b⟩
    exact ⟨pl0, he, own_none0 _ _, b⟩
theorem rins_all (c : Ce) (p : Pl) (e : L5) (d : D2) (w : World) (hr : CRow w c p) (hf : Fit c) (hcap : c.elems.length ≤ p.lc) (hv : e.val.size ≤ maxLen) :
    Calls Try.prog 11 #[ceV c p, lv e, dv d] w fun r w' => ∃ q, r = .returned (.tuple #[ceV (ansI c e d).1 q, .int .i64 (ansI c e d).2]) ∧ COwn w.heap.size w' (ansI c e d).1 q ∧ Below w.heap.size w w' := by
  unfold ansI
  by_cases hb : (decide (c.kind = 3) && okX c.elems e) = true
  · rw [if_pos hb]
    simp only [Bool.and_eq_true, decide_eq_true_eq] at hb
    cases hi : insL c.elems e d with
    | some L => exact rins_yes c p e d L w hr hf hcap hb.1 hb.2 hi
    | none =>
      refine (rins_range c p e d w hr hf hb.1 hb.2 (insL_none.1 hi)).mono ?_
      rintro r w1 ⟨he, b⟩
      exact ⟨pl0, he, own_none0 _ _, b⟩
  · rw [if_neg hb]
    refine (rins_no c p e d w hr hf hv (by simpa using hb)).mono ?_
    rintro r w1 ⟨he, b⟩
    exact ⟨pl0, he, own_none0 _ _, b⟩
theorem era_all (c : Ce) (p : Pl) (d : D2) (w : World) (hr : CRow w c p) (hf : Fit c) :
    Calls Try.prog 12 #[ceV c p, dv d] w fun r w' => ∃ q, r = .returned (.tuple #[ceV (ansR c d).1 q, .int .i64 (ansR c d).2]) ∧ COwn w.heap.size w' (ansR c d).1 q ∧ Below w.heap.size w w' := by
  unfold ansR
  by_cases hk : c.kind = 3
  · rw [if_pos hk]
    have hk1 : (c.kind != 3) = false := by simpa using hk
    unfold eraL
    cases ha : atD c.elems d with
    | some k => exact era_yes c p d k w hr hf hk1 ha
    | none =>
      refine (era_range c p d w hr hf hk1 ha).mono ?_
      rintro r w1 ⟨he, b⟩
      exact ⟨pl0, he, own_none0 _ _, b⟩
  · rw [if_neg hk]
    refine (era_no c p d w (by simpa using hk)).mono ?_
    rintro r w1 ⟨he, b⟩
    exact ⟨pl0, he, own_none0 _ _, b⟩
theorem rera_all (c : Ce) (p : Pl) (d : D2) (w : World) (hr : CRow w c p) (hf : Fit c) :
    Calls Try.prog 13 #[ceV c p, dv d] w fun r w' => ∃ q, r = .returned (.tuple #[ceV (ansR c d).1 q, .int .i64 (ansR c d).2]) ∧ COwn w.heap.size w' (ansR c d).1 q ∧ Below w.heap.size w w' := by
  unfold ansR
  by_cases hk : c.kind = 3
  · rw [if_pos hk]
    have hk1 : (c.kind != 3) = false := by simpa using hk
    unfold eraL
    cases ha : atD c.elems d with
    | some k => exact rera_yes c p d k w hr hf hk1 ha
    | none =>
      refine (rera_range c p d w hr hf hk1 ha).mono ?_
      rintro r w1 ⟨he, b⟩
      exact ⟨pl0, he, own_none0 _ _, b⟩
  · rw [if_neg hk]
    refine (rera_no c p d w (by simpa using hk)).mono ?_
    rintro r w1 ⟨he, b⟩
    exact ⟨pl0, he, own_none0 _ _, b⟩
theorem com_all (c : Ce) (p : Pl) (w : World) (hr : CRow w c p) (hf : Fit c) :
    Calls Try.prog 14 #[ceV c p] w fun r w' => ∃ q, r = .returned (.tuple #[ceV (ansK c) q, .int .i64 (numK c)]) ∧ COwn w.heap.size w' (ansK c) q ∧ Below w.heap.size w w' := by
  unfold ansK numK
  by_cases hk : c.kind = 3
  · rw [if_pos hk, if_pos hk]
    exact com_yes c p w hr hf (by simpa using hk)
  · rw [if_neg hk, if_neg hk]
    refine (com_no c p w (by simpa using hk)).mono ?_
    rintro r w1 ⟨he, b⟩
    exact ⟨pl0, he, own_none0 _ _, b⟩
theorem rcom_all (c : Ce) (p : Pl) (w : World) (hr : CRow w c p) (hf : Fit c) :
    Calls Try.prog 15 #[ceV c p] w fun r w' => ∃ q, r = .returned (.tuple #[ceV (ansK c) q, .int .i64 (numK c)]) ∧ COwn w.heap.size w' (ansK c) q ∧ Below w.heap.size w w' := by
  unfold ansK numK
  by_cases hk : c.kind = 3
  · rw [if_pos hk, if_pos hk]
    exact rcom_yes c p w hr hf (by simpa using hk)
  · rw [if_neg hk, if_neg hk]
    refine (rcom_no c p w (by simpa using hk)).mono ?_
    rintro r w1 ⟨he, b⟩
    exact ⟨pl0, he, own_none0 _ _, b⟩
theorem xvals_all (c : Ce) (p : Pl) (w : World) (hr : CRow w c p) (hf : Fit c) :
    Calls Try.prog 16 #[ceV c p] w fun r w' => ∃ ao ca, r = .returned (.tuple #[.slice ao (ansX c).length ca, .int .i64 (numK c)]) ∧ FOwn w.heap.size w' ao (flatT (ansX c)) ∧ Below w.heap.size w w' := by
  unfold ansX numK
  by_cases hk : c.kind = 3
  · rw [if_pos hk, if_pos hk]
    exact xvals_yes c p w hr hf (by simpa using hk)
  · rw [if_neg hk, if_neg hk]
    refine (xvals_no c p w (by simpa using hk)).mono ?_
    rintro r w1 ⟨he, b⟩
    exact ⟨none, 0, he, FOwn.nil _ _ _, b⟩
theorem rlvals_all (c : Ce) (p : Pl) (w : World) (hr : CRow w c p) (hf : Fit c) :
    Calls Try.prog 17 #[ceV c p] w fun r w' => ∃ ao ca, r = .returned (.tuple #[.slice ao (ansX c).length ca, .int .i64 (numK c)]) ∧ FOwn w.heap.size w' ao (flatT (ansX c)) ∧ Below w.heap.size w w' := by
  unfold ansX numK
  by_cases hk : c.kind = 3
  · rw [if_pos hk, if_pos hk]
    exact rlvals_yes c p w hr hf (by simpa using hk)
  · rw [if_neg hk, if_neg hk]
    refine (rlvals_no c p w (by simpa using hk)).mono ?_
    rintro r w1 ⟨he, b⟩
    exact ⟨none, 0, he, FOwn.nil _ _ _, b⟩
theorem rat_all (c : Ce) (p : Pl) (k : Int) (w : World) (hr : CRow w c p) (hf : Fit c) :
    Calls Try.prog 18 #[ceV c p, .int .i64 k] w fun r w' => r = .returned (.tuple #[dv (ansA c k).1, .int .i64 (ansA c k).2]) ∧ Below w.heap.size w w' := by
  unfold ansA
  by_cases hk : c.kind = 3
  · rw [if_pos hk]
    exact rat_yes c p k w hr hf (by simpa using hk)
  · rw [if_neg hk]
    exact rat_no c p k w (by simpa using hk)
theorem rrat_all (c : Ce) (p : Pl) (k : Int) (w : World) (hr : CRow w c p) (hf : Fit c) :
    Calls Try.prog 19 #[ceV c p, .int .i64 k] w fun r w' => r = .returned (.tuple #[dv (ansA c k).1, .int .i64 (ansA c k).2]) ∧ Below w.heap.size w w' := by
  unfold ansA
  by_cases hk : c.kind = 3
  · rw [if_pos hk]
    exact rrat_yes c p k w hr hf (by simpa using hk)
  · rw [if_neg hk]
    exact rrat_no c p k w (by simpa using hk)

end Go.Proofs.Ytaakhpibdpgjpaa
