/-
  Put, Drop, Dots and the document's own, whatever comes.
-/
import Derived.Test.YtedgobdeoheaoaaRefPut9
import Derived.Test.YtedgobdeoheaoaaDots9
namespace Go.Proofs.Ytedgobdeoheaoaa
open Go.RowKit Go.Shelf
set_option linter.unusedVariables false
set_option linter.unusedSimpArgs false

set_option maxHeartbeats 1000000 in
set_option maxRecDepth 100000 in
/-- The document's Put refuses ahead of the loop. -/
theorem rput_no (c : Ce) (p : Pl) (d : D2) (v : ByteArray) (w : World) (hv : v.size ≤ maxLen) (hb : (decide (c.kind = 2) && (mayB d.1 d.2 16 && decide (v.size ≤ 256))) = false) :
    Calls Try.prog 11 #[ceV c p, dv d, .string v] w fun e w' => e = .returned (.tuple #[ceV ce0 pl0, .int .i64 900]) ∧ Below w.heap.size w w' := by
  have H0 : Hid (Set3 w w.heap.size c p d.1 d.2 (((w.alloc (.cells (ceL c p).toArray 30)).alloc (.cells #[.int .i64 d.1, .int .i64 d.2] 32)).alloc (.cells (ceL ce0 pl0).toArray 30))) := set3_new _ _ _ _ _ _ _ _
  obtain ⟨h, hh⟩ : ∃ h, w.heap.size = h := ⟨_, rfl⟩
  rw [hh] at H0 ⊢
  unfold maxLen at hv
  by_cases hk : c.kind = 2
  · have hk1 : (c.kind != 2) = false := by simpa using hk
    have C := fun W => refMay_any d.1 d.2 16 W
    cases hm : mayB d.1 d.2 16 with
    | false =>
      rw [hm] at C
      clear hb hk hm
      go_enter Try.func11, Try.ntmps11
      go_wp2_with fail
      refine (C _).mono ?_
      rintro e w1 ⟨rfl, b1⟩
      have H2 : Hid (Set3 w h c p d.1 d.2 w1) := H0.out.later b1
      clear b1 H0 C
      obtain ⟨s0, s1, s2, s3, s4, s5, s6, s7, s8, s9⟩ := H2.out.2.2.2.ten
      obtain ⟨z0, z1, z2, z3, z4, z5, z6, z7, z8, z9⟩ := H2.out.2.2.2.tenf
      go_wp2_with fail
      exact put_no_end H2.out rfl rfl rfl rfl
    | true =>
      rw [hm] at C
      have hs : ¬ v.size ≤ 256 := by simpa [hk, hm] using hb
      have hs1 : decide ((256 : Int) < (v.size : Int)) = true := by simp; omega
      clear hb hk hm
      go_enter Try.func11, Try.ntmps11
      go_wp2_with fail
      refine (C _).mono ?_
      rintro e w1 ⟨rfl, b1⟩
      have H2 : Hid (Set3 w h c p d.1 d.2 w1) := H0.out.later b1
      clear b1 H0 C
      obtain ⟨s0, s1, s2, s3, s4, s5, s6, s7, s8, s9⟩ := H2.out.2.2.2.ten
      obtain ⟨z0, z1, z2, z3, z4, z5, z6, z7, z8, z9⟩ := H2.out.2.2.2.tenf
      go_wp2_with fail
      exact put_no_end H2.out rfl rfl rfl rfl
  · have hk1 : (c.kind != 2) = true := by simpa using hk
    go_enter Try.func11, Try.ntmps11
    go_wp2_with fail
    exact bodyPost_ret (ret_cell2 rfl rfl rfl H0.out.2.2.2) rfl ⟨rfl, H0.out.1⟩

/-- What Put answers. -/
def ansP (c : Ce) (d : D2) (v : ByteArray) : Ce := if putB c d v then cE c (putL c.ents d v) else ce0
def numP (c : Ce) (d : D2) (v : ByteArray) : Int := if putB c d v then 0 else 900
/-- What Drop answers. -/
def ansQ (c : Ce) (ds : List D2) : Ce := if decide (c.kind = 2) then cE c (dropL c.ents ds) else ce0
def numQ (c : Ce) : Int := if decide (c.kind = 2) then 0 else 900
/-- What Dots answers. -/
def ansD (c : Ce) (v : ByteArray) : List D2 := if decide (c.kind = 2) then dotsL c.ents v else []

theorem put_all (c : Ce) (p : Pl) (d : D2) (v : ByteArray) (w : World) (hr : CRow w c p) (hf : Fit c) (hv : v.size ≤ maxLen) :
    Calls Try.prog 10 #[ceV c p, dv d, .string v] w fun e w' => ∃ q, e = .returned (.tuple #[ceV (ansP c d v) q, .int .i64 (numP c d v)]) ∧ COwn w.heap.size w' (ansP c d v) q ∧ Below w.heap.size w w' := by
  unfold ansP numP
  cases hb : putB c d v with
  | true => exact put_yes c p d v w hr hf hb
  | false =>
    refine (put_no c p d v w hr hf hv hb).mono ?_
    rintro e w1 ⟨he, b⟩
    exact ⟨pl0, he, own_none0 _ _, b⟩

theorem rput_all (c : Ce) (p : Pl) (d : D2) (v : ByteArray) (w : World) (hr : CRow w c p) (hf : Fit c) (hcap : c.ents.length ≤ p.ec) (hv : v.size ≤ maxLen) :
    Calls Try.prog 11 #[ceV c p, dv d, .string v] w fun e w' => ∃ q, e = .returned (.tuple #[ceV (ansP c d v) q, .int .i64 (numP c d v)]) ∧ COwn w.heap.size w' (ansP c d v) q ∧ Below w.heap.size w w' := by
  cases h1 : (decide (c.kind = 2) && (mayB d.1 d.2 16 && decide (v.size ≤ 256))) with
  | false =>
    have hb : putB c d v = false := by
      unfold putB
      revert h1
      cases decide (c.kind = 2) <;> cases mayB d.1 d.2 16 <;> cases decide (v.size ≤ 256) <;> simp
    refine (rput_no c p d v w hv h1).mono ?_
    rintro e w1 ⟨he, b⟩
    unfold ansP numP
    rw [hb]
    exact ⟨pl0, he, own_none0 _ _, b⟩
  | true =>
    simp only [Bool.and_eq_true, decide_eq_true_eq] at h1
    obtain ⟨hk, hm, hs⟩ := h1
    have hb : putB c d v = !hasD c.ents d := by simp [putB, hk, hm, hs]
    refine (rput_any c p d v w hr hf hcap hs hm (by simpa using hk)).mono ?_
    unfold ansP numP
    rintro e w1 (⟨hh, he, b⟩ | ⟨hh, q, he, o, b⟩)
    · rw [hb, hh]
      exact ⟨pl0, he, own_none0 _ _, b⟩
    · rw [hb, hh]
      exact ⟨q, he, o, b⟩

theorem drop_all (c : Ce) (p : Pl) (ao : Option Addr) (ca : Nat) (ds : List D2) (w : World) (hr : CRow w c p) (hf : Fit c) (hds : FRow w ao (flatD ds)) (hl : ds.length * 16 ≤ 140737488355328) :
    Calls Try.prog 12 #[ceV c p, .slice ao ds.length ca] w fun e w' => ∃ q, e = .returned (.tuple #[ceV (ansQ c ds) q, .int .i64 (numQ c)]) ∧ COwn w.heap.size w' (ansQ c ds) q ∧ Below w.heap.size w w' := by
  unfold ansQ numQ
  by_cases hk : c.kind = 2
  · rw [decide_eq_true hk]
    exact drop_yes c p ao ca ds w hr hf hds hl (by simpa using hk)
  · rw [decide_eq_false hk]
    refine (drop_no c p _ w (by simpa using hk)).mono ?_
    rintro e w1 ⟨he, b⟩
    exact ⟨pl0, he, own_none0 _ _, b⟩

theorem rdrop_all (c : Ce) (p : Pl) (ao : Option Addr) (ca : Nat) (ds : List D2) (w : World) (hr : CRow w c p) (hf : Fit c) (hds : FRow w ao (flatD ds)) (hl : ds.length * 16 ≤ 140737488355328) :
    Calls Try.prog 13 #[ceV c p, .slice ao ds.length ca] w fun e w' => ∃ q, e = .returned (.tuple #[ceV (ansQ c ds) q, .int .i64 (numQ c)]) ∧ COwn w.heap.size w' (ansQ c ds) q ∧ Below w.heap.size w w' := by
  unfold ansQ numQ
  by_cases hk : c.kind = 2
  · rw [decide_eq_true hk]
    exact rdrop_yes c p ao ca ds w hr hf hds hl (by simpa using hk)
  · rw [decide_eq_false hk]
    refine (rdrop_no c p _ w (by simpa using hk)).mono ?_
    rintro e w1 ⟨he, b⟩
    exact ⟨pl0, he, own_none0 _ _, b⟩

theorem dots_all (c : Ce) (p : Pl) (v : ByteArray) (w : World) (hr : CRow w c p) (hf : Fit c) :
    Calls Try.prog 16 #[ceV c p, .string v] w fun e w' => ∃ ao ca, e = .returned (.tuple #[.slice ao (ansD c v).length ca, .int .i64 (numQ c)]) ∧ FOwn w.heap.size w' ao (flatD (ansD c v)) ∧ Below w.heap.size w w' := by
  unfold ansD numQ
  by_cases hk : c.kind = 2
  · rw [decide_eq_true hk]
    exact dots_yes c p v w hr hf (by simpa using hk)
  · rw [decide_eq_false hk]
    refine (dots_no c p _ w (by simpa using hk)).mono ?_
    rintro e w1 ⟨he, b⟩
    exact ⟨none, 0, he, FOwn.nil _ _ _, b⟩

theorem rdots_all (c : Ce) (p : Pl) (v : ByteArray) (w : World) (hr : CRow w c p) (hf : Fit c) :
    Calls Try.prog 17 #[ceV c p, .string v] w fun e w' => ∃ ao ca, e = .returned (.tuple #[.slice ao (ansD c v).length ca, .int .i64 (numQ c)]) ∧ FOwn w.heap.size w' ao (flatD (ansD c v)) ∧ Below w.heap.size w w' := by
  unfold ansD numQ
  by_cases hk : c.kind = 2
  · rw [decide_eq_true hk]
    exact rdots_yes c p v w hr hf (by simpa using hk)
  · rw [decide_eq_false hk]
    refine (rdots_no c p _ w (by simpa using hk)).mono ?_
    rintro e w1 ⟨he, b⟩
    exact ⟨none, 0, he, FOwn.nil _ _ _, b⟩

theorem fit_more {c : Ce} {l : List E3} (h : Fit c) (hl : l.length * 32 ≤ 140737488351232 + 32) (hv : ∀ x ∈ l, x.val.size ≤ 140737488351232) : c.elems.length * 48 ≤ 140737488351232 := h.2.1

end Go.Proofs.Ytedgobdeoheaoaa
