/-
  Looking through a row of entries: slices.IndexFunc and slices.ContainsFunc at a predicate; package orset's has and placeOf.
-/
import Derived.Test.YtedgobdeoheaoaaOrder9
import Derived.Test.YtedgobdeoheaoaaCe
import Derived.Shelf.Abstract
import Derived.Deep.LoopGhost
import Derived.OwnWalk
namespace Go.Proofs.Ytedgobdeoheaoaa
open Go.RowKit Go.Shelf
set_option linter.unusedVariables false
set_option linter.unusedSimpArgs false

abbrev ev (x : E3) : Value := .agg #[.int .i64 x.node, .int .i64 x.seq, .string x.val]
/-- An entry's dot. -/
abbrev dotE (x : E3) : D2 := (x.node, x.seq)

/-- What a predicate answers wherever all that lay below B lies still. -/
def Pred (B : Nat) (w : World) (g : Nat) (lb : Array Value) (p : E3 → Bool) : Prop :=
  ∀ (W : World) (x : E3), Below B w W → B ≤ W.heap.size → Calls Try.prog g (#[ev x] ++ lb) W fun e w' => e = .returned (.bool (p x)) ∧ Below W.heap.size W w'

/-- The first place at which p holds; -1: there is none. -/
def Place (p : E3 → Bool) (l : List E3) (r : Int) : Prop :=
  (r = -1 ∧ ∀ (j : Nat) x, l[j]? = some x → p x = false) ∨ ∃ i : Nat, r = (i : Int) ∧ i < l.length ∧ (∃ x, l[i]? = some x ∧ p x = true) ∧ ∀ (j : Nat) x, j < i → l[j]? = some x → p x = false

set_option maxHeartbeats 1000000 in
set_option maxRecDepth 100000 in
theorem index_any (p : E3 → Bool) (g : Nat) (lb : Array Value) (eg : ∀ args w, (callFunc g args).run Try.prog w = .ok (.enter g args) w) (B : Nat) (ao : Option Addr) (ca : Nat) (l : List E3) (w : World) (hr : FRow w ao (flatE l)) (hl : l.length ≤ maxLen) (hB : B ≤ w.heap.size) (hp : Pred B w g lb p) :
    Calls Try.prog 60 #[.slice ao l.length ca, .func (.func g) #[] lb] w fun e w' => ∃ r : Int, e = .returned (.int .i64 r) ∧ Place p l r ∧ Below w.heap.size w w' := by
  have HR : Hid (FRow w ao (flatE l) ∧ Pred B w g lb p ∧ B ≤ w.heap.size) := ⟨hr, hp, hB⟩
  clear hr hp hB
  unfold maxLen at hl
  go_enter Try.func60, Try.ntmps60
  go_wp2
  go_loopg [5, 8] l.length (fun n _ iv wr => ∃ i : Nat, i + n = l.length ∧ iv = .int .i64 i ∧ Below w.heap.size w wr ∧ Hid (∀ (j : Nat) x, j < i → l[j]? = some x → p x = false))
  case atStart => exact ⟨0, by omega, rfl, Below.refl _ _, fun j x hj => by omega⟩
  case round =>
    obtain ⟨i, hin, rfl, hbel, HA⟩ := hrel
    by_cases hi : i < l.length
    · obtain ⟨bk, off, rfl, hb, hc⟩ := HR.out.1 (by rw [flatE_len]; omega)
      obtain ⟨x, hx⟩ : ∃ x, l[i]? = some x := ⟨_, List.getElem?_eq_getElem hi⟩
      obtain ⟨g0, g1, g2⟩ := flatE_at l i hx
      have k0 := (hbel.cell (p := ⟨bk, off + i * 3, none⟩) (by exact hb)).trans (hc _ _ g0)
      have k1 := (hbel.cell (p := ⟨bk, off + i * 3 + 1, none⟩) (by exact hb)).trans (hc _ _ g1)
      have k2 := (hbel.cell (p := ⟨bk, off + i * 3 + 2, none⟩) (by exact hb)).trans (hc _ _ g2)
      have C := HR.out.2.1 wr x (hbel.mono HR.out.2.2) (Nat.le_trans HR.out.2.2 hbel.size)
      have HX : Hid (l[i]? = some x) := hx
      have HBel : Hid (Below w.heap.size w wr) := hbel
      clear hc hx g0 g1 g2 hbel
      cases hq : p x with
      | true =>
        rw [hq] at C
        have HQ : Hid (p x = true) := hq
        clear hq
        go_wp2_with (go_at_fn g; refine C.mono ?_; rintro e w1 ⟨rfl, b1⟩)
        go_ret
        exact ⟨_, rfl, Or.inr ⟨i, rfl, hi, ⟨x, HX.out, HQ.out⟩, HA.out⟩, thenB HBel.out b1⟩
      | false =>
        rw [hq] at C
        have HQ : Hid (p x = false) := hq
        clear hq
        go_wp2_with (go_at_fn g; refine C.mono ?_; rintro e w1 ⟨rfl, b1⟩)
        go_roundg (gk - 1)
        case measure => omega
        case rel =>
          refine ⟨i + 1, by omega, by go_num, thenB HBel.out b1, fun j y hj hy => ?_⟩
          by_cases e : j = i
          · subst e
            have := HX.out.symm.trans hy
            simp only [Option.some.injEq] at this
            subst this
            exact HQ.out
          · exact HA.out j y (by omega) hy
    · have hd : decide ((i : Int) < (l.length : Int)) = false := by simp; omega
      go_wp2
      go_ret
      exact ⟨-1, rfl, Or.inl ⟨rfl, fun j x hx => HA.out j x (by have := (List.getElem?_eq_some_iff.1 hx).1; omega) hx⟩, hbel⟩

theorem place_any {p : E3 → Bool} {l : List E3} {r : Int} (h : Place p l r) : decide (0 ≤ r) = l.any p := by
  rcases h with ⟨rfl, h⟩ | ⟨i, rfl, hi, ⟨x, hx, hp⟩, _⟩
  · have : l.any p = false := by
      rw [List.any_eq_false]
      intro x hx
      obtain ⟨j, hj⟩ := List.getElem?_of_mem hx
      simp [h j x hj]
    rw [this]; decide
  · have : l.any p = true := List.any_eq_true.2 ⟨x, List.mem_of_getElem? hx, hp⟩
    rw [this]
    simp

set_option maxHeartbeats 1000000 in
set_option maxRecDepth 100000 in
theorem contains_any (p : E3 → Bool) (g : Nat) (lb : Array Value) (eg : ∀ args w, (callFunc g args).run Try.prog w = .ok (.enter g args) w) (B : Nat) (ao : Option Addr) (ca : Nat) (l : List E3) (w : World) (hr : FRow w ao (flatE l)) (hl : l.length ≤ maxLen) (hB : B ≤ w.heap.size) (hp : Pred B w g lb p) :
    Calls Try.prog 49 #[.slice ao l.length ca, .func (.func g) #[] lb] w fun e w' => e = .returned (.bool (l.any p)) ∧ Below w.heap.size w w' := by
  have C := index_any p g lb eg B ao ca l w hr hl hB hp
  clear hr hp hB hl
  go_enter Try.func49, Try.ntmps49
  go_wp2_with fail
  refine C.mono ?_
  rintro e w1 ⟨r, rfl, hpl, b1⟩
  have hd := place_any hpl
  obtain ⟨q, hq⟩ : ∃ q, q = l.any p := ⟨_, rfl⟩
  rw [← hq] at hd
  have HQ : Hid (q = l.any p) := hq
  clear hpl C hq
  go_wp2
  go_ret
  exact ⟨ret_bool HQ.out, b1⟩

/-- The closure of has: is it that dot? -/
theorem hasIs_any (d : D2) (k : Nat) (W : World) (x : E3) (h0 : W.cell? ⟨k, 0, none⟩ = some (.int .i64 d.1)) (h1 : W.cell? ⟨k, 1, none⟩ = some (.int .i64 d.2)) (hk : k < W.heap.size) :
    Calls Try.prog 50 #[ev x, .pointer (some ⟨k, 0, none⟩)] W fun e w' => e = .returned (.bool (decide (dotE x = d))) ∧ Below W.heap.size W w' := by
  have hne : k ≠ W.heap.size := by omega
  obtain ⟨d1, d2⟩ := d
  go_enter Try.func50, Try.ntmps50
  go_wp2
  all_goals (go_ret; exact ⟨ret_bool (by first | rfl | simp_all | (rw [Bool.eq_iff_iff]; simp_all)), (Below.refl _ _).alloc (Nat.le_refl _) _⟩)

theorem enters_has : ∀ args w, (callFunc 50 args).run Try.prog w = .ok (.enter 50 args) w := enters_of Try.func50 (by kernel_rfl) rfl

set_option maxHeartbeats 1000000 in
set_option maxRecDepth 100000 in
theorem has_any (d : D2) (ao : Option Addr) (ca : Nat) (l : List E3) (w : World) (hr : FRow w ao (flatE l)) (hl : l.length ≤ maxLen) :
    Calls Try.prog 30 #[.slice ao l.length ca, dv d] w fun e w' => e = .returned (.bool (l.any fun x => decide (dotE x = d))) ∧ Below w.heap.size w w' := by
  have H0 : Has (w.alloc (.cells #[.int .i64 d.1, .int .i64 d.2] 32)) w.heap.size [.int .i64 d.1, .int .i64 d.2] := has_new w [.int .i64 d.1, .int .i64 d.2] _
  have hal : Below w.heap.size w (w.alloc (.cells #[.int .i64 d.1, .int .i64 d.2] 32)) := (Below.refl _ _).alloc (Nat.le_refl _) _
  have C := contains_any (fun x => decide (dotE x = d)) 50 #[.pointer (some ⟨w.heap.size, 0, none⟩)] enters_has (w.heap.size + 1) ao ca l (w.alloc (.cells #[.int .i64 d.1, .int .i64 d.2] 32)) (hr.later hal) hl (by simp) (fun W x hW hs => by
    have H1 := H0.under (by omega) hW
    exact hasIs_any d w.heap.size W x (H1.at 0 rfl) (H1.at 1 rfl) (by omega))
  clear hr hl
  generalize l.any (fun x => decide (dotE x = d)) = q at C ⊢
  go_enter Try.func30, Try.ntmps30
  go_wp2_with fail
  refine C.mono ?_
  rintro e w1 ⟨rfl, b1⟩
  go_wp2
  go_ret
  exact ⟨rfl, thenB hal b1⟩

/-- Where an entry of dot d goes. -/
def placeD (l : List E3) (d : D2) : Nat := (l.takeWhile fun x => !ltD d (dotE x)).length

theorem place_le (l : List E3) (d : D2) : placeD l d ≤ l.length := by
  unfold placeD
  exact (List.takeWhile_sublist _).length_le

theorem placeD_at {l : List E3} {d : D2} {i : Nat} {x : E3} (hx : l[i]? = some x) (h : ltD d (dotE x) = true) (ha : ∀ (j : Nat) y, j < i → l[j]? = some y → ltD d (dotE y) = false) : placeD l d = i := by
  unfold placeD
  induction l generalizing i with
  | nil => simp at hx
  | cons a l ih =>
    cases i with
    | zero =>
      simp only [List.getElem?_cons_zero, Option.some.injEq] at hx
      subst hx
      simp [List.takeWhile_cons, h]
    | succ i =>
      have h0 := ha 0 a (by omega) rfl
      rw [List.takeWhile_cons, h0]
      simp only [Bool.not_false, if_true, List.length_cons]
      rw [ih (by simpa using hx) (fun j y hj hy => ha (j + 1) y (by omega) (by simpa using hy))]

theorem placeD_end {l : List E3} {d : D2} (ha : ∀ (j : Nat) y, l[j]? = some y → ltD d (dotE y) = false) : placeD l d = l.length := by
  unfold placeD
  induction l with
  | nil => rfl
  | cons a l ih =>
    rw [List.takeWhile_cons, ha 0 a rfl]
    simp only [Bool.not_false, if_true, List.length_cons]
    rw [ih fun j y hy => ha (j + 1) y (by simpa using hy)]

set_option maxHeartbeats 1000000 in
set_option maxRecDepth 100000 in
theorem placeOf_any (d : D2) (ao : Option Addr) (ca : Nat) (l : List E3) (w : World) (hr : FRow w ao (flatE l)) (hl : l.length ≤ maxLen) :
    Calls Try.prog 34 #[.slice ao l.length ca, dv d] w fun e w' => e = .returned (.int .i64 (placeD l d : Nat)) ∧ Below w.heap.size w w' := by
  have H0 : Hid (Has (w.alloc (.cells #[.int .i64 d.1, .int .i64 d.2] 32)) w.heap.size [.int .i64 d.1, .int .i64 d.2] ∧ Below w.heap.size w (w.alloc (.cells #[.int .i64 d.1, .int .i64 d.2] 32))) := ⟨has_new w [.int .i64 d.1, .int .i64 d.2] _, (Below.refl _ _).alloc (Nat.le_refl _) _⟩
  have HR : Hid (FRow w ao (flatE l)) := hr
  obtain ⟨h, hh⟩ : ∃ h, w.heap.size = h := ⟨_, rfl⟩
  rw [hh] at H0 ⊢
  have HH : Hid (w.heap.size = h) := hh
  clear hr
  unfold maxLen at hl
  go_enter Try.func34, Try.ntmps34
  go_wp2
  clear hh
  go_loopg [5, 6, 9] l.length (fun n _ _ iv wr => ∃ i : Nat, i + n = l.length ∧ iv = .int .i64 i ∧ Hid (Has wr h [.int .i64 d.1, .int .i64 d.2] ∧ Below h w wr) ∧ Hid (∀ (j : Nat) x, j < i → l[j]? = some x → ltD d (dotE x) = false))
  case atStart => exact ⟨0, by omega, rfl, H0.out, fun j x hj => by omega⟩
  case round =>
    obtain ⟨i, hin, rfl, HB, HA⟩ := hrel
    clear H0
    by_cases hi : i < l.length
    · obtain ⟨bk, off, rfl, hb, hc⟩ := HR.out (by rw [flatE_len]; omega)
      obtain ⟨x, hx⟩ : ∃ x, l[i]? = some x := ⟨_, List.getElem?_eq_getElem hi⟩
      obtain ⟨g0, g1, g2⟩ := flatE_at l i hx
      have hb1 : bk < h := HH.out ▸ hb
      have k0 := (HB.out.2.cell (p := ⟨bk, off + i * 3, none⟩) (by exact hb1)).trans (hc _ _ g0)
      have k1 := (HB.out.2.cell (p := ⟨bk, off + i * 3 + 1, none⟩) (by exact hb1)).trans (hc _ _ g1)
      have k2 := (HB.out.2.cell (p := ⟨bk, off + i * 3 + 2, none⟩) (by exact hb1)).trans (hc _ _ g2)
      have t0 := HB.out.1.at 0 rfl
      have t1 := HB.out.1.at 1 rfl
      obtain ⟨n1, hn1⟩ : ∃ n, wr.heap.size = n := ⟨_, rfl⟩
      have hlt : h < n1 := by have := HB.out.1.1; omega
      have HX : Hid (l[i]? = some x) := hx
      have HN : Hid (wr.heap.size = n1) := hn1
      clear hc hx g0 g1 g2 hb
      have hal : Hid (Below n1 wr (wr.alloc (.cells #[.int .i64 x.node, .int .i64 x.seq, .string x.val] 65))) := hn1 ▸ (Below.refl _ _).alloc (Nat.le_refl _) _
      go_wp2_with fail
      refine (odots_below (dotE x) d _).mono ?_
      rintro e w1 ⟨rfl, b1⟩
      have b2 : Hid (Below n1 wr w1) := by
        have h1 : Below wr.heap.size wr (wr.alloc (.cells #[.int .i64 x.node, .int .i64 x.seq, .string x.val] 65)) := HN.out ▸ hal.out
        exact HN.out ▸ thenB h1 b1
      clear b1 hal k0 k1 k2 t0 t1
      cases hq : ltD d (dotE x) with
      | true =>
        have hpos : decide (0 < cmpD (dotE x) d) = true := by simpa using (cmpD_pos (dotE x) d).2 hq
        have HQ : Hid (ltD d (dotE x) = true) := hq
        clear hq
        go_wp2
        go_ret
        rw [placeD_at HX.out HQ.out HA.out]
        exact ⟨rfl, HB.out.2.trans (b2.out.mono (by omega))⟩
      | false =>
        have hpos : decide (0 < cmpD (dotE x) d) = false := by
          rw [decide_eq_false_iff_not, cmpD_pos, hq]; simp
        have HQ : Hid (ltD d (dotE x) = false) := hq
        clear hq
        go_wp2
        go_roundg (gk - 1)
        case measure => omega
        case rel =>
          refine ⟨i + 1, by omega, by go_num, ⟨HB.out.1.under (by omega) b2.out, HB.out.2.trans (b2.out.mono (by omega))⟩, fun j y hj hy => ?_⟩
          by_cases e : j = i
          · subst e
            have := HX.out.symm.trans hy
            simp only [Option.some.injEq] at this
            subst this
            exact HQ.out
          · exact HA.out j y (by omega) hy
    · have hd : decide ((i : Int) < (l.length : Int)) = false := by simp; omega
      go_wp2
      go_ret
      rw [placeD_end fun j y hy => HA.out j y (by have := (List.getElem?_eq_some_iff.1 hy).1; omega) hy]
      exact ⟨rfl, HB.out.2⟩

end Go.Proofs.Ytedgobdeoheaoaa
