/-
  Looking through a row of elements: slices.IndexFunc at a predicate; package rga's indexOf, behind, placeOf, mayCome.
-/
import Derived.Test.YtghlegidapmpmaaLis10
import Derived.Test.YtghlegidapmpmaaTakes
import Derived.Deep.RegionHeld3
import Derived.Deep.QuietTactic
import Derived.Deep.LoopGhost
import Derived.Shelf.Abstract
import Derived.OwnWalk
import Derived.WalkMore
import Derived.ScopeJumps
namespace Go.Proofs.Ytghlegidapmpmaa
open Go.RowKit Go.Shelf
set_option linter.unusedVariables false
set_option linter.unusedSimpArgs false

abbrev lv (x : L5) : Value := .agg #[.int .i64 x.node, .int .i64 x.seq, .int .i64 x.time, .string x.val, .bool x.gone]

/-- What a predicate answers wherever all that lay below B lies still. -/
def PredL (B : Nat) (w : World) (g : Nat) (lb : Array Value) (p : L5 → Bool) : Prop :=
  ∀ (W : World) (x : L5), Below B w W → B ≤ W.heap.size → Calls Try.prog g (#[lv x] ++ lb) W fun e w' => e = .returned (.bool (p x)) ∧ Below W.heap.size W w'

/-- The first place at which p holds; -1: there is none. -/
def PlaceL (p : L5 → Bool) (l : List L5) (r : Int) : Prop :=
  (r = -1 ∧ ∀ (j : Nat) x, l[j]? = some x → p x = false) ∨ ∃ i : Nat, r = (i : Int) ∧ i < l.length ∧ (∃ x, l[i]? = some x ∧ p x = true) ∧ ∀ (j : Nat) x, j < i → l[j]? = some x → p x = false

set_option maxHeartbeats 1000000 in
set_option maxRecDepth 100000 in
theorem indexL_any (p : L5 → Bool) (g : Nat) (lb : Array Value) (eg : ∀ args w, (callFunc g args).run Try.prog w = .ok (.enter g args) w) (B : Nat) (ao : Option Addr) (ca : Nat) (l : List L5) (w : World) (hr : FRow w ao (flatL l)) (hl : l.length ≤ maxLen) (hB : B ≤ w.heap.size) (hp : PredL B w g lb p) :
    Calls Try.prog 24 #[.slice ao l.length ca, .func (.func g) #[] lb] w fun e w' => ∃ r : Int, e = .returned (.int .i64 r) ∧ PlaceL p l r ∧ Below w.heap.size w w' := by
  have HR : Hid (FRow w ao (flatL l) ∧ PredL B w g lb p ∧ B ≤ w.heap.size) := ⟨hr, hp, hB⟩
  clear hr hp hB
  unfold maxLen at hl
  go_enter Try.func24, Try.ntmps24
  go_wp2
  go_loopg [5, 8] l.length (fun n _ iv wr => ∃ i : Nat, i + n = l.length ∧ iv = .int .i64 i ∧ Below w.heap.size w wr ∧ Hid (∀ (j : Nat) x, j < i → l[j]? = some x → p x = false))
  case atStart => exact ⟨0, by omega, rfl, Below.refl _ _, fun j x hj => by omega⟩
  case round =>
    obtain ⟨i, hin, rfl, hbel, HA⟩ := hrel
    by_cases hi : i < l.length
    · obtain ⟨bk, off, rfl, hb, hc⟩ := HR.out.1 (by rw [flatL_len]; omega)
      obtain ⟨x, hx⟩ : ∃ x, l[i]? = some x := ⟨_, List.getElem?_eq_getElem hi⟩
      obtain ⟨g0, g1, g2, g3, g4⟩ := flatL_at l i hx
      have k0 := (hbel.cell (p := ⟨bk, off + i * 5, none⟩) (by exact hb)).trans (hc _ _ g0)
      have k1 := (hbel.cell (p := ⟨bk, off + i * 5 + 1, none⟩) (by exact hb)).trans (hc _ _ g1)
      have k2 := (hbel.cell (p := ⟨bk, off + i * 5 + 2, none⟩) (by exact hb)).trans (hc _ _ g2)
      have k3 := (hbel.cell (p := ⟨bk, off + i * 5 + 3, none⟩) (by exact hb)).trans (hc _ _ g3)
      have k4 := (hbel.cell (p := ⟨bk, off + i * 5 + 4, none⟩) (by exact hb)).trans (hc _ _ g4)
      have C := HR.out.2.1 wr x (hbel.mono HR.out.2.2) (Nat.le_trans HR.out.2.2 hbel.size)
      have HX : Hid (l[i]? = some x) := hx
      have HBel : Hid (Below w.heap.size w wr) := hbel
      clear hc hx g0 g1 g2 g3 g4 hbel
      cases hq : p x with
      | true =>
        rw [hq] at C
        have HQ : Hid (p x = true) := hq
        clear hq
        go_wp2_with (go_at_fn g; refine C.mono ?_; rintro e w1 ⟨rfl, b1⟩)
        go_ret
        exact ⟨_, rfl, Or.inr ⟨i, rfl, hi, ⟨x, HX.out, HQ.out⟩, HA.out⟩, thenB HBel.out b1⟩
      | false =>
        rw [hq] at C
        have HQ : Hid (p x = false) := hq
        clear hq
        go_wp2_with (go_at_fn g; refine C.mono ?_; rintro e w1 ⟨rfl, b1⟩)
        go_roundg (gk - 1)
        case measure => omega
        case rel =>
          refine ⟨i + 1, by omega, by go_num, thenB HBel.out b1, fun j y hj hy => ?_⟩
          by_cases e : j = i
          · subst e
            have := HX.out.symm.trans hy
            simp only [Option.some.injEq] at this
            subst this
            exact HQ.out
          · exact HA.out j y (by omega) hy
    · have hd : decide ((i : Int) < (l.length : Int)) = false := by simp; omega
      go_wp2
      go_ret
      exact ⟨-1, rfl, Or.inl ⟨rfl, fun j x hx => HA.out j x (by have := (List.getElem?_eq_some_iff.1 hx).1; omega) hx⟩, hbel⟩

theorem placeL_any {p : L5 → Bool} {l : List L5} {r : Int} (h : PlaceL p l r) : decide (0 ≤ r) = l.any p := by
  rcases h with ⟨rfl, h⟩ | ⟨i, rfl, hi, ⟨x, hx, hp⟩, _⟩
  · have : l.any p = false := by
      rw [List.any_eq_false]
      intro x hx
      obtain ⟨j, hj⟩ := List.getElem?_of_mem hx
      simp [h j x hj]
    rw [this]; decide
  · have : l.any p = true := List.any_eq_true.2 ⟨x, List.mem_of_getElem? hx, hp⟩
    rw [this]
    simp


/-- The place of that dot's element; -1: there is none. -/
def numD (l : List L5) (d : D2) : Int := match atD l d with
  | some k => (k : Int)
  | none => -1
theorem numD_ge (l : List L5) (d : D2) : decide (0 ≤ numD l d) = hasX l d := by
  rw [← atD_iff]
  unfold numD
  cases atD l d with
  | none => rfl
  | some k => simp
theorem numD_none {l : List L5} {d : D2} (h : atD l d = none) : numD l d = -1 := by unfold numD; rw [h]
theorem numD_some {l : List L5} {d : D2} {k : Nat} (h : atD l d = some k) : numD l d = (k : Int) := by unfold numD; rw [h]
theorem atD_at : ∀ {l : List L5} {d : D2} {k : Nat} {x : L5}, l[k]? = some x → dotX x = d → (∀ (j : Nat) y, j < k → l[j]? = some y → dotX y ≠ d) → atD l d = some k
  | [], d, k, x, h, _, _ => by simp at h
  | a :: l, d, 0, x, h, hx, _ => by
    simp only [List.getElem?_cons_zero, Option.some.injEq] at h
    subst h
    unfold atD
    rw [if_pos hx]
  | a :: l, d, k + 1, x, h, hx, ha => by
    unfold atD
    rw [if_neg (ha 0 a (by omega) rfl), atD_at (l := l) (k := k) (by simpa using h) hx fun j y hj hy => ha (j + 1) y (by omega) (by simpa using hy)]
    rfl
theorem atD_no : ∀ {l : List L5} {d : D2}, (∀ (j : Nat) y, l[j]? = some y → dotX y ≠ d) → atD l d = none
  | [], d, _ => rfl
  | a :: l, d, ha => by
    unfold atD
    rw [if_neg (ha 0 a rfl), atD_no fun j y hy => ha (j + 1) y (by simpa using hy)]
    rfl
theorem place_num {l : List L5} {d : D2} {r : Int} (h : PlaceL (fun x => decide (dotX x = d)) l r) : r = numD l d := by
  rcases h with ⟨rfl, h⟩ | ⟨i, rfl, hi, ⟨x, hx, hp⟩, h⟩
  · rw [numD_none (atD_no fun j y hy => by simpa using h j y hy)]
  · rw [numD_some (atD_at hx (by simpa using hp) fun j y hj hy => by simpa using h j y hj hy)]

/-- The closure of indexOf: is it that dot? -/
theorem isDot_any (d : D2) (k : Nat) (W : World) (x : L5) (h0 : W.cell? ⟨k, 0, none⟩ = some (.int .i64 d.1)) (h1 : W.cell? ⟨k, 1, none⟩ = some (.int .i64 d.2)) (hk : k < W.heap.size) :
    Calls Try.prog 25 #[lv x, .pointer (some ⟨k, 0, none⟩)] W fun e w' => e = .returned (.bool (decide (dotX x = d))) ∧ Below W.heap.size W w' := by
  have hne : k ≠ W.heap.size := by omega
  obtain ⟨d1, d2⟩ := d
  go_enter Try.func25, Try.ntmps25
  go_wp2
  all_goals (go_ret; exact ⟨ret_bool (by first | rfl | simp_all | (rw [Bool.eq_iff_iff]; simp_all)), (Below.refl _ _).alloc (Nat.le_refl _) _⟩)

theorem enters_isDot : ∀ args w, (callFunc 25 args).run Try.prog w = .ok (.enter 25 args) w := enters_of Try.func25 (by kernel_rfl) rfl

set_option maxHeartbeats 1000000 in
set_option maxRecDepth 100000 in
theorem indexOf_any (d : D2) (ao : Option Addr) (ca : Nat) (l : List L5) (w : World) (hr : FRow w ao (flatL l)) (hl : l.length ≤ maxLen) :
    Calls Try.prog 15 #[.slice ao l.length ca, dv d] w fun e w' => e = .returned (.int .i64 (numD l d)) ∧ Below w.heap.size w w' := by
  have H0 : Has (w.alloc (.cells #[.int .i64 d.1, .int .i64 d.2] 33)) w.heap.size [.int .i64 d.1, .int .i64 d.2] := has_new w [.int .i64 d.1, .int .i64 d.2] _
  have hal : Below w.heap.size w (w.alloc (.cells #[.int .i64 d.1, .int .i64 d.2] 33)) := (Below.refl _ _).alloc (Nat.le_refl _) _
  have C := indexL_any (fun x => decide (dotX x = d)) 25 #[.pointer (some ⟨w.heap.size, 0, none⟩)] enters_isDot (w.heap.size + 1) ao ca l (w.alloc (.cells #[.int .i64 d.1, .int .i64 d.2] 33)) (hr.later hal) hl (by simp) (fun W x hW hs => by
    have H1 := H0.under (by omega) hW
    exact isDot_any d w.heap.size W x (H1.at 0 rfl) (H1.at 1 rfl) (by omega))
  clear hr hl
  go_enter Try.func15, Try.ntmps15
  go_wp2_with fail
  refine C.mono ?_
  rintro e w1 ⟨r, rfl, hp, b1⟩
  have hr := place_num hp
  subst hr
  clear hp C
  go_wp2
  go_ret
  exact ⟨rfl, thenB hal b1⟩

/-- The place right behind, or the first one. -/
def behindN (l : List L5) (d : D2) : Nat := (behindL l d).getD 0
theorem behindL_zero (l : List L5) : behindL l (0, 0) = some 0 := by simp [behindL]
theorem behindL_else {l : List L5} {d : D2} (h : d ≠ (0, 0)) : behindL l d = (atD l d).map (· + 1) := by unfold behindL; rw [if_neg h]

set_option maxHeartbeats 1000000 in
set_option maxRecDepth 100000 in
theorem behind_any (d : D2) (ao : Option Addr) (ca : Nat) (l : List L5) (w : World) (hr : FRow w ao (flatL l)) (hl : l.length ≤ maxLen) :
    Calls Try.prog 16 #[.slice ao l.length ca, dv d] w fun e w' => e = .returned (.tuple #[.int .i64 (behindN l d : Nat), .bool (behindL l d).isSome]) ∧ Below w.heap.size w w' := by
  have hal : Below w.heap.size w (w.alloc (.cells #[.int .i64 d.1, .int .i64 d.2] 33)) := (Below.refl _ _).alloc (Nat.le_refl _) _
  obtain ⟨d1, d2⟩ := d
  by_cases h0 : d1 = 0 ∧ d2 = 0
  · obtain ⟨rfl, rfl⟩ := h0
    unfold behindN
    rw [behindL_zero]
    clear hr hl
    go_enter Try.func16, Try.ntmps16
    go_wp2
    go_ret2
    exact ⟨rfl, hal⟩
  · have C := indexOf_any (d1, d2) ao ca l _ (hr.later hal) hl
    unfold behindN
    rw [behindL_else (fun e => h0 (by simpa using e))]
    have hlen := hl
    unfold maxLen at hlen
    have hlt : ∀ k, atD l (d1, d2) = some k → k < l.length := fun k => atD_lt
    clear hr hl
    unfold numD at C
    by_cases h1 : d1 = 0
    · have e1 : (d1 == 0) = true := by simpa using h1
      have e2 : (d2 == 0) = false := by simpa using fun e => h0 ⟨h1, e⟩
      clear h0 h1
      cases ha : atD l (d1, d2) with
      | none =>
        rw [ha] at C
        clear hlt ha
        go_enter Try.func16, Try.ntmps16
        go_wp2_with fail
        refine C.mono ?_
        rintro e w1 ⟨rfl, b1⟩
        go_wp2
        go_ret2
        exact ⟨rfl, thenB hal b1⟩
      | some k =>
        rw [ha] at C
        have hk := hlt k ha
        have hw : IntKind.i64.wrap ((k : Int) + 1) = ((k + 1 : Nat) : Int) := by rw [IntKind.wrap_i64]; omega
        have hge : decide ((0 : Int) ≤ (k : Int)) = true := by simp
        clear hlt ha
        go_enter Try.func16, Try.ntmps16
        go_wp2_with fail
        refine C.mono ?_
        rintro e w1 ⟨rfl, b1⟩
        go_wp2
        go_ret2
        exact ⟨by simp, thenB hal b1⟩
    · have e1 : (d1 == 0) = false := by simpa using h1
      clear h0 h1
      cases ha : atD l (d1, d2) with
      | none =>
        rw [ha] at C
        clear hlt ha
        go_enter Try.func16, Try.ntmps16
        go_wp2_with fail
        refine C.mono ?_
        rintro e w1 ⟨rfl, b1⟩
        go_wp2
        go_ret2
        exact ⟨rfl, thenB hal b1⟩
      | some k =>
        rw [ha] at C
        have hk := hlt k ha
        have hw : IntKind.i64.wrap ((k : Int) + 1) = ((k + 1 : Nat) : Int) := by rw [IntKind.wrap_i64]; omega
        have hge : decide ((0 : Int) ≤ (k : Int)) = true := by simp
        clear hlt ha
        go_enter Try.func16, Try.ntmps16
        go_wp2_with fail
        refine C.mono ?_
        rintro e w1 ⟨rfl, b1⟩
        go_wp2
        go_ret2
        exact ⟨by simp, thenB hal b1⟩

/-- What a function answers whose answer is two numbers in a cell. -/
theorem ret_stamp {fn : Func} {tmps : Array Value} {t : Tmp} {w : World} {g : Nat} {u0 u1 : Value} (h : fn.results = #[.cell t 25]) (ht : tmps[t]? = some (.pointer (some ⟨g, 0, none⟩))) (hg : Has w g [u0, u1]) :
    (results fn tmps).run Try.prog w = .ok (.agg #[u0, u1]) w := by
  have h0 := hg.at 0 rfl
  have h1 := hg.at 1 rfl
  simp [results, h, ht, h0, h1, go_sem]

theorem stampOf_any (x : L5) (w : World) :
    Calls Try.prog 33 #[lv x] w fun e w' => e = .returned (.agg #[.int .i64 x.time, .int .i64 x.node]) ∧ Below w.heap.size w w' := by
  go_enter Try.func33, Try.ntmps33
  go_wp2
  have H : Has ((w.alloc (.cells (l5 x).toArray 38)).alloc (.cells #[.int .i64 x.time, .int .i64 x.node] 25)) (w.heap.size + 1) [.int .i64 x.time, .int .i64 x.node] := by
    have := has_new (w.alloc (.cells (l5 x).toArray 38)) [.int .i64 x.time, .int .i64 x.node] 25
    simpa using this
  exact bodyPost_ret (ret_stamp rfl rfl H) rfl ⟨rfl, ((Below.refl _ _).alloc (Nat.le_refl _) _).alloc (by simp) _⟩

/-- What a round of placeOf keeps: the element in its box, the one that it is held against. -/
abbrev HeldX (w1 : World) (h bk o : Nat) (e x : L5) (W : World) : Prop :=
  Hid (Below w1.heap.size w1 W) ∧ (W.cell? ⟨h, 0, none⟩ = some (.int .i64 e.node) ∧ W.cell? ⟨h, 1, none⟩ = some (.int .i64 e.seq) ∧ W.cell? ⟨h, 2, none⟩ = some (.int .i64 e.time) ∧ W.cell? ⟨h, 3, none⟩ = some (.string e.val) ∧ W.cell? ⟨h, 4, none⟩ = some (.bool e.gone)) ∧ W.cell? ⟨bk, o, none⟩ = some (.int .i64 x.node) ∧ W.cell? ⟨bk, o + 1, none⟩ = some (.int .i64 x.seq) ∧ W.cell? ⟨bk, o + 2, none⟩ = some (.int .i64 x.time) ∧ W.cell? ⟨bk, o + 3, none⟩ = some (.string x.val) ∧ W.cell? ⟨bk, o + 4, none⟩ = some (.bool x.gone)
structure SrcX (w1 : World) (h bk o : Nat) (e x : L5) : Prop where
  hh : Has w1 h (l5 e)
  hb : bk < w1.heap.size
  h0 : w1.cell? ⟨bk, o, none⟩ = some (.int .i64 x.node)
  h1 : w1.cell? ⟨bk, o + 1, none⟩ = some (.int .i64 x.seq)
  h2 : w1.cell? ⟨bk, o + 2, none⟩ = some (.int .i64 x.time)
  h3 : w1.cell? ⟨bk, o + 3, none⟩ = some (.string x.val)
  h4 : w1.cell? ⟨bk, o + 4, none⟩ = some (.bool x.gone)
section
variable {w1 W : World} {h bk o : Nat} {e x : L5}
theorem heldX_of (hs : SrcX w1 h bk o e x) (hb : Below w1.heap.size w1 W) : HeldX w1 h bk o e x W := by
  have H := hs.hh.later hb
  have c := fun j => hb.cell (p := ⟨bk, j, none⟩) (by exact hs.hb)
  exact ⟨hb, ⟨H.at 0 rfl, H.at 1 rfl, H.at 2 rfl, H.at 3 rfl, H.at 4 rfl⟩, (c _).trans hs.h0, (c _).trans hs.h1, (c _).trans hs.h2, (c _).trans hs.h3, (c _).trans hs.h4⟩
theorem heldX_later {W' : World} (hs : SrcX w1 h bk o e x) (hb : Below W.heap.size W W') (H : HeldX w1 h bk o e x W) : HeldX w1 h bk o e x W' := heldX_of hs (H.1.out.trans (hb.mono H.1.out.size))
theorem heldX_drew (hs : SrcX w1 h bk o e x) : HeldX w1 h bk o e x w1.drew := heldX_of hs (Below.refl _ _).drew
end

/-- A label at which a body begins, and the gotos back to it: what holds at each of them, and a measure. -/
theorem wp_goto_loop {P : Program} {a : Act} {w : World} {Q : Exit → Act → World → Prop} {rest : Code} (l : Nat) (J : Act → World → Prop) (μ : Act → World → Nat) (hJ : J a w)
    (pass : ∀ a w, J a w → rest.wp P (Exit.jump l (fun a' w' => J a' w' ∧ μ a' w' < μ a w) Q) a w) : (Code.scope ((Code.label l).seq rest)).wp P Q a w :=
  wp_scope_jumps l J μ (by simp [findLabel]) (wp_seq (wp_label (wp_mono (pass a w hJ) fun e a' w' h => by
    cases e with
    | goto l' => exact ⟨h.1, h.2.1⟩
    | _ => exact h))) fun a w hJ => wp_seq (wp_skip (pass a w hJ))

/-- Where the round stands. -/
def atOf : Value → Nat | .int _ q => q.toNat | _ => 0

/-- How far placeOf goes. -/
theorem pastL_at {t n : Int} {l : List L5} {k : Nat} {x : L5} (hx : l[k]? = some x) : pastL t n (l.drop k) = if lessB t n x.time x.node = true then pastL t n (l.drop (k + 1)) + 1 else 0 := by
  have hk := (List.getElem?_eq_some_iff.1 hx).1
  have e : l.drop k = x :: l.drop (k + 1) := by rw [List.drop_eq_getElem_cons hk, (List.getElem?_eq_some_iff.1 hx).2]
  rw [e, pastL]

set_option maxHeartbeats 1000000 in
set_option maxRecDepth 100000 in
theorem placeOfX_any (e : L5) (k : Nat) (ao : Option Addr) (ca : Nat) (l : List L5) (w : World) (hr : FRow w ao (flatL l)) (hl : l.length ≤ maxLen) (hk : k ≤ l.length) :
    Calls Try.prog 20 #[.slice ao l.length ca, lv e, .int .i64 (k : Nat)] w fun r w' => r = .returned (.int .i64 ((k + pastL e.time e.node (l.drop k) : Nat) : Int)) ∧ Below w.heap.size w w' := by
  obtain ⟨h, hh⟩ : ∃ h, w.heap.size = h := ⟨_, rfl⟩
  have H0 : Hid (Has (w.alloc (.cells (l5 e).toArray 38)) h (l5 e) ∧ Below h w (w.alloc (.cells (l5 e).toArray 38))) := ⟨hh ▸ has_new w (l5 e) _, hh ▸ (Below.refl _ _).alloc (Nat.le_refl _) _⟩
  have HR : Hid (FRow w ao (flatL l) ∧ w.heap.size = h) := ⟨hr, hh⟩
  rw [hh]
  clear hr
  unfold maxLen at hl
  go_enter Try.func20, Try.ntmps20
  go_wp2
  clear hh
  refine wp_goto_loop 0 (fun a' w' => ∃ (i : Nat) (u7 u8 u9 u10 u11 u12 u13 u14 u15 u16 u17 u18 u19 u20 u21 u22 u23 : Value), a' = { tmps := #[.slice ao l.length ca, lv e, .int .i64 (i : Nat), undef, .pointer (some ⟨h, 0, none⟩), undef, .int .i64 0, u7, u8, u9, u10, u11, u12, u13, u14, u15, u16, u17, u18, u19, u20, u21, u22, u23], defers := [] } ∧ Hid (Has w' h (l5 e) ∧ Below h w w') ∧ i ≤ l.length ∧ Hid (i + pastL e.time e.node (l.drop i) = k + pastL e.time e.node (l.drop k))) (fun a' _ => l.length - atOf (a'.tmps.getD 2 undef)) ?_ ?_
  · exact ⟨k, _, _, _, _, _, _, _, _, _, _, _, _, _, _, _, _, _, rfl, H0.out, hk, rfl⟩
  · clear H0
    rintro a' wr ⟨i, u7, u8, u9, u10, u11, u12, u13, u14, u15, u16, u17, u18, u19, u20, u21, u22, u23, rfl, HB, hil, HP⟩
    by_cases hi : i < l.length
    · have hd : decide ((i : Int) < (l.length : Int)) = true := by simpa using hi
      obtain ⟨bk, off, rfl, hb, hc⟩ := HR.out.1 (by rw [flatL_len]; omega)
      obtain ⟨x, hx⟩ : ∃ x, l[i]? = some x := ⟨_, List.getElem?_eq_getElem hi⟩
      obtain ⟨g0, g1, g2, g3, g4⟩ := flatL_at l i hx
      have hb1 : bk < h := HR.out.2 ▸ hb
      have HS : Hid (SrcX wr h bk (off + i * 5) e x) := by
        have c := fun j => HB.out.2.cell (p := ⟨bk, j, none⟩) (by exact hb1)
        exact ⟨HB.out.1, by have := HB.out.1.1; omega, (c _).trans (hc _ _ g0), (c _).trans (hc _ _ g1), (c _).trans (hc _ _ g2), (c _).trans (hc _ _ g3), (c _).trans (hc _ _ g4)⟩
      have HX : Hid (l[i]? = some x) := hx
      clear hc hx g0 g1 g2 g3 g4 hb hb1
      cases hq : lessB e.time e.node x.time x.node with
      | true =>
        have HQ : Hid ((i + 1) + pastL e.time e.node (l.drop (i + 1)) = k + pastL e.time e.node (l.drop k)) := by
          have := HP.out
          rw [pastL_at HX.out, hq, if_pos rfl] at this
          show (i + 1) + pastL e.time e.node (l.drop (i + 1)) = _
          omega
        go_wp2_with fail
        go_region_held3 (HeldX wr h bk (off + i * 5) e x) (first | (with_reducible apply heldX_later HS.out hb2; assumption) | (with_reducible exact heldX_drew HS.out))
          (first
            | (go_at_call 33; with_reducible refine (stampOf_any _ _).mono ?_; rintro r w3 ⟨rfl, hb2⟩)
            | (go_at_call 32; with_reducible refine (less_any _ _ _ _ _).mono ?_; rintro r w3 ⟨rfl, hb2⟩))
        have HE : Hid (Has w3 h (l5 e) ∧ Below h w w3) := by
          have b : Below wr.heap.size wr w3 := (show HeldX wr h bk (off + i * 5) e x w3 by assumption).1.out
          exact ⟨HB.out.1.later b, HB.out.2.trans (b.mono (by have := HB.out.1.1; omega))⟩
        go_wp2
        go_step3
        refine ⟨rfl, ⟨i + 1, _, _, _, _, _, _, _, _, _, _, _, _, _, _, _, _, _, rfl, HE.out, by omega, HQ.out⟩, ?_⟩
        show l.length - ((i : Int) + 1).toNat < l.length - ((i : Int)).toNat
        omega
      | false =>
        have HQ : Hid (((k + pastL e.time e.node (l.drop k) : Nat) : Int) = (i : Int)) := by
          have := HP.out
          rw [pastL_at HX.out, hq, if_neg (by simp)] at this
          show ((k + pastL e.time e.node (l.drop k) : Nat) : Int) = _
          omega
        go_wp2_with fail
        go_region_held3 (HeldX wr h bk (off + i * 5) e x) (first | (with_reducible apply heldX_later HS.out hb2; assumption) | (with_reducible exact heldX_drew HS.out))
          (first
            | (go_at_call 33; with_reducible refine (stampOf_any _ _).mono ?_; rintro r w3 ⟨rfl, hb2⟩)
            | (go_at_call 32; with_reducible refine (less_any _ _ _ _ _).mono ?_; rintro r w3 ⟨rfl, hb2⟩))
        have HE : Hid (Below h w w3) := by
          have b : Below wr.heap.size wr w3 := (show HeldX wr h bk (off + i * 5) e x w3 by assumption).1.out
          exact HB.out.2.trans (b.mono (by have := HB.out.1.1; omega))
        go_wp2
        simp only [Exit.jump]
        go_ret
        rw [HQ.out]
        exact ⟨rfl, HE.out⟩
    · have hd : decide ((i : Int) < (l.length : Int)) = false := by simp; omega
      have HQ : Hid (((k + pastL e.time e.node (l.drop k) : Nat) : Int) = (i : Int)) := by
        have := HP.out
        rw [List.drop_eq_nil_of_le (by omega : l.length ≤ i)] at this
        show ((k + pastL e.time e.node (l.drop k) : Nat) : Int) = _
        simp only [pastL] at this
        omega
      go_wp2_with fail
      refine wp_region_held_drew (S := fun W => Below h w W) (by kernel_rfl) HB.out.2.drew (fun hHeld => ?_)
      refine take_at 0 7 (v := .int .i64 (i : Nat)) rfl (by kernel_rfl) (by kernel_rfl) (by kernel_rfl) (fun _ _ _ h => h) rfl (by rfl) (fun w hSw => ?hy) hHeld ?_
      case hy =>
        try dsimp only at hSw
        go_simp
      simp only [List.set_cons_zero, List.set_cons_succ]
      refine take_at 1 8 (v := .slice ao l.length ca) rfl (by kernel_rfl) (by kernel_rfl) (by kernel_rfl) (fun _ _ _ h => h) rfl (by rfl) (fun w hSw => ?hy) hHeld ?_
      case hy =>
        try dsimp only at hSw
        go_simp
      simp only [List.set_cons_zero, List.set_cons_succ]
      refine take_at 2 9 (v := .int .i64 (l.length : Nat)) rfl (by kernel_rfl) (by kernel_rfl) (by kernel_rfl) (fun _ _ _ h => h) rfl (by rfl) (fun w hSw => ?hy) hHeld ?_
      case hy =>
        try dsimp only at hSw
        go_simp
      simp only [List.set_cons_zero, List.set_cons_succ]
      refine take_at 3 10 (v := .bool false) rfl (by kernel_rfl) (by kernel_rfl) (by kernel_rfl) (fun _ _ _ h => h) rfl (by rfl) (fun w hSw => ?hy) hHeld ?_
      case hy =>
        try dsimp only at hSw
        go_simp
      simp only [List.set_cons_zero, List.set_cons_succ]
      refine take_at 4 11 (v := .bool false) rfl (by kernel_rfl) (by kernel_rfl) (by kernel_rfl) (fun _ _ _ h => h) rfl (by rfl) (fun w hSw => ?hy) hHeld ?_
      case hy =>
        try dsimp only at hSw
        go_simp
      simp only [List.set_cons_zero, List.set_cons_succ]
      refine skip_at 5 12 rfl (by kernel_rfl) (by kernel_rfl) (by kernel_rfl) (fun _ _ _ h => h) rfl (by rfl) hHeld ?_
      simp only [List.set_cons_zero, List.set_cons_succ]
      refine skip_at 7 14 rfl (by kernel_rfl) (by kernel_rfl) (by kernel_rfl) (fun _ _ _ h => h) rfl (by rfl) hHeld ?_
      simp only [List.set_cons_zero, List.set_cons_succ]
      refine skip_at 8 15 rfl (by kernel_rfl) (by kernel_rfl) (by kernel_rfl) (fun _ _ _ h => h) rfl (by rfl) hHeld ?_
      simp only [List.set_cons_zero, List.set_cons_succ]
      refine skip_at 9 16 rfl (by kernel_rfl) (by kernel_rfl) (by kernel_rfl) (fun _ _ _ h => h) rfl (by rfl) hHeld ?_
      simp only [List.set_cons_zero, List.set_cons_succ]
      refine skip_at 10 17 rfl (by kernel_rfl) (by kernel_rfl) (by kernel_rfl) (fun _ _ _ h => h) rfl (by rfl) hHeld ?_
      simp only [List.set_cons_zero, List.set_cons_succ]
      refine wpAnyH_ready (rs := [6]) (by kernel_rfl) (by simp) ?_
      refine AllReadyH.cons rfl (fun K hK => ?_) AllReadyH.nil
      go_simp
      refine hK.out _ _ hHeld (fun hHeld => ?_)
      clear hK K
      try simp only [Act.put, List.setIfInBounds_toArray, List.set_cons_zero, List.set_cons_succ]
      refine wpAnyH_ready (rs := [11]) (by kernel_rfl) (by simp) ?_
      refine AllReadyH.cons rfl (fun K hK => ?_) AllReadyH.nil
      go_simp
      refine hK.out _ _ hHeld (fun hHeld => ?_)
      clear hK K
      try simp only [Act.put, List.setIfInBounds_toArray, List.set_cons_zero, List.set_cons_succ]
      refine wpAnyH_ready (rs := [12]) (by kernel_rfl) (by simp) ?_
      refine AllReadyH.cons rfl (fun K hK => ?_) AllReadyH.nil
      go_simp
      refine hK.out _ _ hHeld (fun hHeld => ?_)
      clear hK K
      try simp only [Act.put, List.setIfInBounds_toArray, List.set_cons_zero, List.set_cons_succ]
      refine wpAnyH_ready (rs := [13]) (by kernel_rfl) (by simp) ?_
      refine AllReadyH.cons rfl (fun K hK => ?_) AllReadyH.nil
      go_simp
      refine hK.out _ _ hHeld (fun hHeld => ?_)
      clear hK K
      try simp only [Act.put, List.setIfInBounds_toArray, List.set_cons_zero, List.set_cons_succ]
      refine wpAnyH_done (by kernel_rfl) ?_ _
      go_wp2
      simp only [Exit.jump]
      go_ret
      rw [HQ.out]
      exact ⟨rfl, hHeld⟩

end Go.Proofs.Ytghlegidapmpmaa
