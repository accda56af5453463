/-
  Package gauss, and the document's own answers to it: whether a pair may be; the sum of two.
-/
import Derived.Test.YtmojkjhmacnndaaBase
import Derived.Test.YtmojkjhmacnndaaNum
import Derived.Test.YtmojkjhmacnndaaFlo
import Derived.Laws.ComplexArith
import Derived.Deep.RegionHeld3
import Derived.BigQuiet
namespace Go.Proofs.Ytmojkjhmacnndaa
open Go.RowKit
set_option linter.unusedVariables false

/-- May x be a part? -/
def partB (x : Int) : Bool := decide (-4503599627370496 ≤ x) && decide (x ≤ 4503599627370496)
/-- May the pair be? -/
def pairB (x y : Int) : Bool := partB x && partB y
/-- May both be, and their sum? -/
def addB (a b c d : Int) : Bool := pairB a b && pairB c d && pairB (a + c) (b + d)

/-- What the sum's parts and its error are. -/
def sre (a b c d : Int) : Int := if addB a b c d then a + c else 0
def sim (a b c d : Int) : Int := if addB a b c d then b + d else 0
def ser (a b c d : Int) : Int := if addB a b c d then 0 else 600

/-- A pair's value. -/
abbrev pv (x y : Int) : Value := .agg #[.int .i64 x, .int .i64 y]

theorem partB_iff {x : Int} : partB x = true ↔ -4503599627370496 ≤ x ∧ x ≤ 4503599627370496 := by simp [partB]

/-- A pair of the call's own, in block g. -/
def Two (w : World) (g : Nat) (x y : Int) : Prop :=
  g < w.heap.size ∧ w.cell? ⟨g, 0, none⟩ = some (.int .i64 x) ∧ w.cell? ⟨g, 1, none⟩ = some (.int .i64 y) ∧ w.frozen? ⟨g, 0, none⟩ = false ∧ w.frozen? ⟨g, 1, none⟩ = false

theorem Two.later {w w' : World} {g : Nat} {x y : Int} (h : Two w g x y) (hb : Below w.heap.size w w') : Two w' g x y := by
  obtain ⟨h1, h2, h3, h4, h5⟩ := h
  exact ⟨Nat.lt_of_lt_of_le h1 hb.size, (hb.cell (by exact h1)).trans h2, (hb.cell (by exact h1)).trans h3, (hb.frozen (by exact h1)).trans h4, (hb.frozen (by exact h1)).trans h5⟩

theorem Two.alloc {w : World} {g : Nat} {x y : Int} (h : Two w g x y) (o : Obj) : Two (w.alloc o) g x y := h.later ((Below.refl _ _).alloc (Nat.le_refl _) _)

theorem Two.drew {w : World} {g : Nat} {x y : Int} (h : Two w g x y) : Two w.drew g x y := h.later (Below.refl _ _).drew

theorem two_new (w : World) (x y : Int) (t : TypeId) : Two (w.alloc (.cells #[.int .i64 x, .int .i64 y] t)) w.heap.size x y := by
  refine ⟨by simp, ?_, ?_, ?_, ?_⟩
  · simp [World.cell?_alloc_at]
  · simp [World.cell?_alloc_at]
  · exact World.frozen?_alloc_at _ _ _ _ rfl
  · exact World.frozen?_alloc_at _ _ _ _ rfl

/-- The world behind a pair's store. -/
abbrev putTwo (w : World) (g : Nat) (x y : Int) : World := (w.setCell ⟨g, 0, none⟩ (.int .i64 x)).setCell ⟨g, 1, none⟩ (.int .i64 y)

theorem two_put {w : World} {g : Nat} {a b : Int} (h : Two w g a b) (x y : Int) : Two (putTwo w g x y) g x y := by
  obtain ⟨h1, h2, h3, h4, h5⟩ := h
  refine ⟨by simpa using h1, ?_, ?_, ?_, ?_⟩
  · rw [World.cell?_setCell_other _ _ _ _ (by simp)]
    exact World.cell?_setCell_same _ _ _ h2
  · refine World.cell?_setCell_same _ _ _ (u := .int .i64 b) ?_
    rw [World.cell?_setCell_other _ _ _ _ (by simp)]; exact h3
  · simpa [World.frozen?_setCell] using h4
  · simpa [World.frozen?_setCell] using h5

theorem two_put_other {w : World} {g k : Nat} {a b : Int} (h : Two w g a b) (hk : k ≠ g) (x y : Int) : Two (putTwo w k x y) g a b := by
  obtain ⟨h1, h2, h3, h4, h5⟩ := h
  have n0 : ∀ o j, (⟨k, o, none⟩ : Addr) ≠ ⟨g, j, none⟩ := fun o j e => hk (by injection e)
  refine ⟨by simpa using h1, ?_, ?_, ?_, ?_⟩
  · rw [World.cell?_setCell_other _ _ _ _ (by first | exact n0 _ _ | exact (n0 _ _).symm), World.cell?_setCell_other _ _ _ _ (by first | exact n0 _ _ | exact (n0 _ _).symm)]; exact h2
  · rw [World.cell?_setCell_other _ _ _ _ (by first | exact n0 _ _ | exact (n0 _ _).symm), World.cell?_setCell_other _ _ _ _ (by first | exact n0 _ _ | exact (n0 _ _).symm)]; exact h3
  · simpa [World.frozen?_setCell] using h4
  · simpa [World.frozen?_setCell] using h5

theorem two_set0 {w : World} {g : Nat} {x y : Int} (h : Two w g x y) (v : Int) : Two (w.setCell ⟨g, 0, none⟩ (.int .i64 v)) g v y := by
  obtain ⟨h1, h2, h3, h4, h5⟩ := h
  refine ⟨by simpa using h1, World.cell?_setCell_same _ _ _ h2, ?_, ?_, ?_⟩
  · rw [World.cell?_setCell_other _ _ _ _ (by simp)]; exact h3
  · simpa [World.frozen?_setCell] using h4
  · simpa [World.frozen?_setCell] using h5

theorem two_set1 {w : World} {g : Nat} {x y : Int} (h : Two w g x y) (v : Int) : Two (w.setCell ⟨g, 1, none⟩ (.int .i64 v)) g x v := by
  obtain ⟨h1, h2, h3, h4, h5⟩ := h
  refine ⟨by simpa using h1, ?_, World.cell?_setCell_same _ _ _ h3, ?_, ?_⟩
  · rw [World.cell?_setCell_other _ _ _ _ (by simp)]; exact h2
  · simpa [World.frozen?_setCell] using h4
  · simpa [World.frozen?_setCell] using h5

theorem two_set_other {w : World} {g k : Nat} {x y : Int} (h : Two w g x y) (hk : k ≠ g) (o : Nat) (v : Value) : Two (w.setCell ⟨k, o, none⟩ v) g x y := by
  obtain ⟨h1, h2, h3, h4, h5⟩ := h
  have n0 : ∀ o j, (⟨k, o, none⟩ : Addr) ≠ ⟨g, j, none⟩ := fun o j e => hk (by injection e)
  refine ⟨by simpa using h1, ?_, ?_, ?_, ?_⟩
  · rw [World.cell?_setCell_other _ _ _ _ (by first | exact n0 _ _ | exact (n0 _ _).symm)]; exact h2
  · rw [World.cell?_setCell_other _ _ _ _ (by first | exact n0 _ _ | exact (n0 _ _).symm)]; exact h3
  · simpa [World.frozen?_setCell] using h4
  · simpa [World.frozen?_setCell] using h5

theorem below_put {B : Nat} {a w : World} (h : Below B a w) {g : Nat} (hg : B ≤ g) (x y : Int) : Below B a (putTwo w g x y) := (h.setCell (p := ⟨g, 0, none⟩) hg _).setCell (p := ⟨g, 1, none⟩) hg _

/-- What a function answers whose answer is a pair. -/
theorem ret_pair {fn : Func} {tmps : Array Value} {t : Tmp} {w : World} {g : Nat} {x y : Int} (h : fn.results = #[.cell t 25]) (ht : tmps[t]? = some (.pointer (some ⟨g, 0, none⟩))) (hg : Two w g x y) :
    (results fn tmps).run Try.prog w = .ok (pv x y) w := by
  obtain ⟨h1, h2, h3, h4, h5⟩ := hg
  simp [results, h, ht, h2, h3, go_sem]

/-- What a function answers whose answers are a pair and a number. -/
theorem ret_pair2 {fn : Func} {tmps : Array Value} {t u : Tmp} {w : World} {g : Nat} {x y : Int} {v : Value} (h : fn.results = #[.cell t 25, .tmp u]) (ht : tmps[t]? = some (.pointer (some ⟨g, 0, none⟩))) (hu : tmps[u]? = some v) (hg : Two w g x y) :
    (results fn tmps).run Try.prog w = .ok (.tuple #[pv x y, v]) w := by
  obtain ⟨h1, h2, h3, h4, h5⟩ := hg
  simp [results, h, ht, hu, h2, h3, go_sem]

theorem within_any (x : Int) (w : World) :
    Calls Try.prog 27 #[.int .i64 x] w fun e w' => e = .returned (.bool (partB x)) ∧ w' = w := by
  go_enter Try.func27, Try.ntmps27
  go_wp2
  all_goals (go_ret; exact ⟨ret_bool (by unfold partB; simp_all <;> omega), rfl⟩)

theorem rwithin_any (x : Int) (w : World) :
    Calls Try.prog 29 #[.int .i64 x, .int .i64 4503599627370496] w fun e w' => e = .returned (.bool (partB x)) ∧ w' = w := by
  go_enter Try.func29, Try.ntmps29
  go_wp2
  all_goals (go_ret; exact ⟨ret_bool (by unfold partB; simp_all <;> omega), rfl⟩)

theorem gmay_any (x y : Int) (w : World) :
    Calls Try.prog 19 #[pv x y] w fun e w' => e = .returned (.bool (pairB x y)) ∧ Below w.heap.size w w' := by
  cases hx : partB x <;>
  (go_enter Try.func19, Try.ntmps19
   go_wp2_with (first | (go_at_call 27; refine (within_any _ _).mono ?_; rintro e w1 ⟨rfl, rfl⟩))
   all_goals (go_ret; exact ⟨ret_bool (by unfold pairB; simp [hx]), (Below.refl _ _).alloc (Nat.le_refl _) _⟩))

theorem rmay_any (x y : Int) (w : World) :
    Calls Try.prog 26 #[pv x y] w fun e w' => e = .returned (.bool (pairB x y)) ∧ Below w.heap.size w w' := by
  cases hx : partB x <;>
  (go_enter Try.func26, Try.ntmps26
   go_wp2_with (first | (go_at_call 29; refine (rwithin_any _ _).mono ?_; rintro e w1 ⟨rfl, rfl⟩))
   all_goals (go_ret; exact ⟨ret_bool (by unfold pairB; simp [hx]), (Below.refl _ _).alloc (Nat.le_refl _) _⟩))

/-- The pair as the language's complex number. -/
theorem number_any (x y : Int) (w : World) :
    Calls Try.prog 21 #[pv x y] w fun e w' => e = .returned (.complex .f64 (FloatKind.f64.nearest x) (FloatKind.f64.nearest y)) ∧ Below w.heap.size w w' := by
  have hc : ∀ n w, (convert 3 67 (.int .i64 n)).run Try.prog w = .ok (.float .f64 (FloatKind.f64.nearest n)) w := fun n w => by
    simp [convert, run_underlying Try.underlying3, run_underlying Try.underlying67, Conv.intToFloat]
  go_enter Try.func21, Try.ntmps21
  go_wp2
  go_ret
  exact ⟨rfl, (Below.refl _ _).alloc (Nat.le_refl _) _⟩

/-- A complex number of whole parts as a pair. -/
theorem pair_any (p q : Nat) (x y : Int) (w : World) (hx : floatToIntVal .f64 p .i64 = some x) (hy : floatToIntVal .f64 q .i64 = some y) :
    Calls Try.prog 20 #[.complex .f64 p q] w fun e w' => e = .returned (pv x y) ∧ Below w.heap.size w w' := by
  have hc : ∀ w, (convert 67 3 (.float .f64 p)).run Try.prog w = .ok (.int .i64 x) w := fun w => run_convert_float_int w _ _ .f64 .i64 p x (by rw [Try.underlying67]; rfl) Try.underlying3 hx
  have hd : ∀ w, (convert 67 3 (.float .f64 q)).run Try.prog w = .ok (.int .i64 y) w := fun w => run_convert_float_int w _ _ .f64 .i64 q y (by rw [Try.underlying67]; rfl) Try.underlying3 hy
  clear hx hy
  go_enter Try.func20, Try.ntmps20
  go_wp2
  exact bodyPost_ret (ret_pair rfl rfl (two_new _ _ _ _)) rfl ⟨rfl, (Below.refl _ _).alloc (Nat.le_refl _) _⟩

theorem add_no {a b c d : Int} (h : addB a b c d = false) : sre a b c d = 0 ∧ sim a b c d = 0 ∧ ser a b c d = 600 := by simp [sre, sim, ser, h]
theorem add_yes {a b c d : Int} (h : addB a b c d = true) : sre a b c d = a + c ∧ sim a b c d = b + d ∧ ser a b c d = 0 := by simp [sre, sim, ser, h]

/-- What a call of Add keeps in its first three blocks. -/
abbrev Add3 (w0 : World) (n : Nat) (a b c d : Int) (w : World) : Prop :=
  Below n w0 w ∧ Two w n a b ∧ Two w (n + 1) c d ∧ Two w (n + 2) 0 0

theorem add3_new (w : World) (a b c d : Int) (t1 t2 t3 : TypeId) :
    Add3 w w.heap.size a b c d (((w.alloc (.cells #[.int .i64 a, .int .i64 b] t1)).alloc (.cells #[.int .i64 c, .int .i64 d] t2)).alloc (.cells #[.int .i64 0, .int .i64 0] t3)) := by
  refine ⟨((((Below.refl _ _).alloc (Nat.le_refl _) _).alloc (by simp) _).alloc (by simp; omega) _), ((two_new _ _ _ _).alloc _).alloc _, ?_, ?_⟩
  · have := (two_new (w.alloc (.cells #[.int .i64 a, .int .i64 b] t1)) c d t2).alloc (.cells #[.int .i64 0, .int .i64 0] t3)
    simpa using this
  · have := two_new ((w.alloc (.cells #[.int .i64 a, .int .i64 b] t1)).alloc (.cells #[.int .i64 c, .int .i64 d] t2)) 0 0 t3
    simpa using this

theorem Add3.later {w0 w w' : World} {n : Nat} {a b c d : Int} (h : Add3 w0 n a b c d w) (hb : Below w.heap.size w w') : Add3 w0 n a b c d w' := by
  obtain ⟨h0, h1, h2, h3⟩ := h
  exact ⟨h0.trans (hb.mono (by have := h1.1; omega)), h1.later hb, h2.later hb, h3.later hb⟩

theorem pairB_parts {x y : Int} (h : pairB x y = true) : (-4503599627370496 ≤ x ∧ x ≤ 4503599627370496) ∧ (-4503599627370496 ≤ y ∧ y ≤ 4503599627370496) := by
  simp only [pairB, Bool.and_eq_true, partB_iff] at h
  exact h

/-- The end of a call of Add. -/
theorem add_end {fn : Func} {act : Act} {w w2 : World} {n : Nat} {a b c d x y z : Int} (h : Add3 w n a b c d w2) (hn : w.heap.size = n) (hr : fn.results = #[.cell 4 25, .tmp 5]) (h4 : act.tmps[4]? = some (.pointer (some ⟨n + 2, 0, none⟩))) (h5 : act.tmps[5]? = some (.int .i64 z)) (hd : act.defers = []) (hx : x = sre a b c d) (hy : y = sim a b c d) (hv : z = ser a b c d) :
    bodyPost Try.prog fn (fun e w' => e = .returned (.tuple #[pv (sre a b c d) (sim a b c d), .int .i64 (ser a b c d)]) ∧ Below w.heap.size w w') Exit.ret act (putTwo w2 (n + 2) x y) := by
  subst hx hy hv
  exact bodyPost_ret (ret_pair2 hr h4 h5 (two_put h.2.2.2 _ _)) hd ⟨rfl, by rw [hn]; exact below_put h.1 (by omega) _ _⟩

set_option maxHeartbeats 1000000 in
theorem radd_any (a b c d : Int) (w : World) :
    Calls Try.prog 16 #[pv a b, pv c d] w fun e w' => e = .returned (.tuple #[pv (sre a b c d) (sim a b c d), .int .i64 (ser a b c d)]) ∧ Below w.heap.size w w' := by
  have H0 := add3_new w a b c d 25 25 25
  cases h1 : pairB a b
  · have hno := add_no (a := a) (b := b) (c := c) (d := d) (by simp [addB, h1])
    go_enter Try.func16, Try.ntmps16
    go_wp2_with fail
    refine (rmay_any _ _ _).mono ?_
    rintro e w1 ⟨rfl, k1⟩
    replace H0 := H0.later k1
    obtain ⟨n, hn⟩ : ∃ n, w.heap.size = n := ⟨_, rfl⟩
    rw [hn] at H0 ⊢
    have HH : Hid (Add3 w n a b c d w1) := H0
    obtain ⟨q0, q1, q2, q3⟩ := H0
    obtain ⟨_, e1, e2, e3, e4⟩ := q3
    clear k1
    go_wp2_with fail
    exact add_end HH.out hn rfl rfl rfl rfl hno.1.symm hno.2.1.symm hno.2.2.symm
  · have b1 := pairB_parts h1
    go_enter Try.func16, Try.ntmps16
    go_wp2_with fail
    refine (rmay_any _ _ _).mono ?_
    rintro e w1 ⟨rfl, k1⟩
    replace H0 := H0.later k1
    obtain ⟨n, hn⟩ : ∃ n, w.heap.size = n := ⟨_, rfl⟩
    rw [hn] at H0 ⊢
    have HH : Hid (Add3 w n a b c d w1) := H0
    obtain ⟨q0, q1, q2, q3⟩ := H0
    obtain ⟨_, e1, e2, _, _⟩ := q2
    clear k1 q1 q3
    cases h2 : pairB c d
    · have hno := add_no (a := a) (b := b) (c := c) (d := d) (by simp [addB, h2])
      go_wp2_with fail
      refine (rmay_any _ _ _).mono ?_
      rintro e w2 ⟨rfl, k2⟩
      have H2 : Hid (Add3 w n a b c d w2) := HH.out.later k2
      obtain ⟨_, d1, d2, d3, d4⟩ := H2.out.2.2.2
      clear k2
      go_wp2_with fail
      exact add_end H2.out hn rfl rfl rfl rfl hno.1.symm hno.2.1.symm hno.2.2.symm
    · have b2 := pairB_parts h2
      obtain ⟨⟨a1, a2⟩, a3, a4⟩ := b1
      obtain ⟨⟨c1, c2⟩, c3, c4⟩ := b2
      go_wp2_with fail
      refine (rmay_any _ _ _).mono ?_
      rintro e w2 ⟨rfl, k2⟩
      have H2 : Hid (Add3 w n a b c d w2) := HH.out.later k2
      obtain ⟨_, f1, f2, _, _⟩ := H2.out.2.1
      obtain ⟨_, g1, g2, _, _⟩ := H2.out.2.2.1
      clear k2 e1 e2
      go_wp2_with fail
      refine (rmay_any _ _ _).mono ?_
      rintro e w3 ⟨rfl, k3⟩
      have T3 := (two_new w2 (a + c) (b + d) 25).later k3
      have H3 : Hid (Add3 w n a b c d w3) := (H2.out.later ((Below.refl _ _).alloc (Nat.le_refl _) _)).later k3
      obtain ⟨_, d1, d2, d3, d4⟩ := H3.out.2.2.2
      clear k3 f1 f2 g1 g2
      cases h3 : pairB (a + c) (b + d)
      · have hno := add_no (a := a) (b := b) (c := c) (d := d) (by simp [addB, h3])
        go_wp2_with fail
        exact add_end H3.out hn rfl rfl rfl rfl hno.1.symm hno.2.1.symm hno.2.2.symm
      · have hyes := add_yes (a := a) (b := b) (c := c) (d := d) (by simp [addB, h1, h2, h3])
        obtain ⟨_, t1, t2, _, _⟩ := T3
        go_wp2_with fail
        exact add_end H3.out hn rfl rfl rfl rfl hyes.1.symm hyes.2.1.symm hyes.2.2.symm

end Go.Proofs.Ytmojkjhmacnndaa
