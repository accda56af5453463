/-
  The document's own answer to Sum: the sum of a row of pairs.
-/
import Derived.Test.YthogncopedfmmaaDoorGauSum
namespace Go.Proofs.YthogncopedfmmaaDoor
open Go.RowKit
set_option linter.unusedVariables false

/-- What the region of one step keeps: the sum's cells, the pair's cells. -/
abbrev HeldS (w0 : World) (n b o : Nat) (x y p q : Int) (w : World) : Prop :=
  Hid (Sum2 w0 n x y w) ∧ w.cell? ⟨n + 1, 0, none⟩ = some (.int .i64 x) ∧ w.cell? ⟨n + 1, 1, none⟩ = some (.int .i64 y) ∧ w.cell? ⟨b, o, none⟩ = some (.int .i64 p) ∧ w.cell? ⟨b, o + 1, none⟩ = some (.int .i64 q)

theorem heldS_of {w0 w : World} {n b o : Nat} {x y p q : Int} (h : Sum2 w0 n x y w) (h1 : w.cell? ⟨b, o, none⟩ = some (.int .i64 p)) (h2 : w.cell? ⟨b, o + 1, none⟩ = some (.int .i64 q)) : HeldS w0 n b o x y p q w := ⟨h, h.2.2.2.1, h.2.2.2.2.1, h1, h2⟩

theorem heldS_later {w0 w w' : World} {n b o : Nat} {x y p q : Int} (hn : b < n) (hb : Below w.heap.size w w') (h : HeldS w0 n b o x y p q w) : HeldS w0 n b o x y p q w' :=
  have hl : b < w.heap.size := by have := h.1.out.2.1.1; omega
  heldS_of (h.1.out.later hb) ((hb.cell (by exact hl)).trans h.2.2.2.1) ((hb.cell (by exact hl)).trans h.2.2.2.2)

/-- A place made ahead of what comes into it, behind block m. -/
def Spot (m : Nat) (w : World) (k : Nat) : Prop := Two w k 0 0 ∧ m < k

theorem spot_new {w w3 : World} {n : Nat} {t : TypeId} (h : n < w.heap.size) (hb : Below (w.alloc (.cells #[.int .i64 0, .int .i64 0] t)).heap.size (w.alloc (.cells #[.int .i64 0, .int .i64 0] t)) w3) : Spot n w3 w.heap.size :=
  ⟨(two_new _ _ _ _).later hb, h⟩

theorem spot_newd {w w3 : World} {n : Nat} {t : TypeId} (h : n < w.heap.size) (hb : Below (w.alloc (.cells #[.int .i64 0, .int .i64 0] t)).drew.heap.size (w.alloc (.cells #[.int .i64 0, .int .i64 0] t)).drew w3) : Spot n w3 w.heap.size :=
  ⟨(two_new _ _ _ _).drew.later hb, h⟩

theorem sum2_other {w0 w : World} {n k : Nat} {x y : Int} (h : Sum2 w0 n x y w) (hk : n + 1 < k) (a b : Int) : Sum2 w0 n x y (putTwo w k a b) :=
  ⟨below_put h.1 (by omega) _ _, two_put_other h.2.1 (by omega) _ _, two_put_other h.2.2 (by omega) _ _⟩

theorem cell_put_other {w : World} {k b o : Nat} {v : Value} (hk : b ≠ k) (h : w.cell? ⟨b, o, none⟩ = some v) (a c : Int) : (putTwo w k a c).cell? ⟨b, o, none⟩ = some v := by
  have n0 : ∀ o j, (⟨k, o, none⟩ : Addr) ≠ ⟨b, j, none⟩ := fun o j e => hk (by injection e with e; exact e.symm)
  rw [World.cell?_setCell_other _ _ _ _ (by first | exact n0 _ _ | exact (n0 _ _).symm), World.cell?_setCell_other _ _ _ _ (by first | exact n0 _ _ | exact (n0 _ _).symm)]; exact h

theorem heldS_put {w0 w : World} {n b o k : Nat} {x y p q : Int} (hn : b < n) (s : Spot (n + 1) w k) (h : HeldS w0 n b o x y p q w) (a c : Int) : HeldS w0 n b o x y p q (putTwo w k a c) :=
  have hk := s.2
  heldS_of (sum2_other h.1.out s.2 _ _) (cell_put_other (by omega) h.2.2.2.1 _ _) (cell_put_other (by omega) h.2.2.2.2 _ _)

theorem heldS_swap {w0 w : World} {n b o : Nat} {x y p q a c : Int} {t : TypeId} (hn : b < n) (hk : n + 1 < w.heap.size) (h : HeldS w0 n b o x y p q (w.alloc (.cells #[.int .i64 0, .int .i64 0] t))) : HeldS w0 n b o x y p q (w.alloc (.cells #[.int .i64 a, .int .i64 c] t)) := by
  have e : ∀ k, k < w.heap.size → (w.alloc (.cells #[.int .i64 a, .int .i64 c] t)).heap[k]? = (w.alloc (.cells #[.int .i64 0, .int .i64 0] t)).heap[k]? := fun k hk => by
    rw [Below.heap_alloc _ _ _ hk, Below.heap_alloc _ _ _ hk]
  have two : ∀ {g : Nat} {p q : Int}, g < w.heap.size → Two (w.alloc (.cells #[.int .i64 0, .int .i64 0] t)) g p q → Two (w.alloc (.cells #[.int .i64 a, .int .i64 c] t)) g p q := fun {g p q} hg ⟨h1, h2, h3, h4, h5⟩ =>
    ⟨by simp; omega, by rw [← h2]; exact World.cell?_of_block (e g hg), by rw [← h3]; exact World.cell?_of_block (e g hg), by rw [← h4]; exact World.frozen?_of_block (e g hg), by rw [← h5]; exact World.frozen?_of_block (e g hg)⟩
  obtain ⟨h0, h1, h2⟩ := h.1.out
  exact heldS_of ⟨⟨h0.os, h0.tape, h0.output, by simpa using h0.size, fun k hk2 => (e k (by omega)).trans (h0.block k hk2)⟩, two (by omega) h1, two (by omega) h2⟩ ((World.cell?_of_block (e b (by omega))).trans h.2.2.2.1) ((World.cell?_of_block (e b (by omega))).trans h.2.2.2.2)

theorem heldS_id {w : World} {k : Nat} (w0 : World) (n b o : Nat) (x y p q c d : Int) (s : Spot (n + 1) w k) (h : HeldS w0 n b o x y p q (putTwo w k c d)) : HeldS w0 n b o x y p q (putTwo w k c d) := h

set_option maxHeartbeats 2000000 in
set_option maxRecDepth 100000 in
theorem rsum_any (ao : Option Addr) (ca : Nat) (a : List P2) (w : World) (ha : PRow w ao a) (hla : a.length ≤ maxLen) {X Y E : Int} (h : sumF a 0 0 = (X, Y, E)) :
    Calls Tryd.prog 12 #[.slice ao a.length ca] w fun e w' => e = .returned (.tuple #[pv X Y, .int .i64 E]) ∧ Below w.heap.size w w' := by
  have HA : Hid (PRow w ao a) := ha
  have HE : Hid (sumF a 0 0 = (X, Y, E)) := h
  clear ha h
  unfold maxLen at hla
  have S0 := sum2_new w 23 23
  obtain ⟨n, hn⟩ : ∃ n, w.heap.size = n := ⟨_, rfl⟩
  have HN : Hid (w.heap.size = n) := hn
  go_enter Tryd.func12, Tryd.ntmps12
  go_wp2
  rw [hn] at S0
  clear hn
  go_loopg [5] a.length (fun m iv wr => ∃ (i : Nat) (x y : Int), i + m = a.length ∧ iv = .int .i64 i ∧ Sum2 w n x y wr ∧ Hid (sumF (a.drop i) x y = (X, Y, E)))
  case atStart => exact ⟨0, 0, 0, by omega, rfl, S0, HE.out⟩
  case round =>
    clear S0
    obtain ⟨i, x, y, hin, rfl, hS, HX⟩ := hrel
    have HS : Hid (Sum2 w n x y wr) := hS
    obtain ⟨hbel, ⟨l1, f1, f2, f3, f4⟩, ⟨l2, g1, g2, g3, g4⟩⟩ := hS
    by_cases hi : i < a.length
    · obtain ⟨bk, off, rfl, hb, hc⟩ := HA.out (by omega)
      have hbn : bk < n := by have := HN.out; omega
      have hx1 := (hbel.cell (p := ⟨bk, off + i * 2, none⟩) (by exact hbn)).trans (hc i hi).1
      have hx2 := (hbel.cell (p := ⟨bk, off + i * 2 + 1, none⟩) (by exact hbn)).trans (hc i hi).2
      have HX2 := HX.out
      rw [sumF_step hi] at HX2
      obtain ⟨p, hp⟩ : ∃ p, p = (at2 a i).1 := ⟨_, rfl⟩
      obtain ⟨q, hq⟩ : ∃ q, q = (at2 a i).2 := ⟨_, rfl⟩
      rw [← hp, ← hq] at HX2
      rw [← hp] at hx1
      rw [← hq] at hx2
      have HY : Hid ((if addB x y p q then sumF (a.drop (i + 1)) (x + p) (y + q) else (0, 0, 600)) = (X, Y, E)) := HX2
      have HC : Hid (HeldS w n bk (off + i * 2) x y p q wr) := heldS_of HS.out hx1 hx2
      have hz : n + 1 < wr.heap.size := l2
      have hz2 : n + 1 < wr.drew.heap.size := l2
      clear hc hp hq HX2 HX hbel f1 f2 f3 f4 l1 g1 g2 g3 g4 hx1 hx2 l2
      cases hB : addB x y p q
      · have hno := add_no hB
        have C : ∀ w, Calls Tryd.prog 10 #[pv x y, pv p q] w fun e w' => e = .returned (.tuple #[pv 0 0, .int .i64 600]) ∧ Below w.heap.size w w' := fun w => by
          have := radd_any x y p q w
          rwa [hno.1, hno.2.1, hno.2.2] at this
        have e := HY.out
        rw [hB, if_neg (by simp)] at e
        simp only [Prod.mk.injEq] at e
        obtain ⟨rfl, rfl, rfl⟩ := e
        clear hno hB HY
        go_wp2_with fail
        go_region_held3 (HeldS w n bk (off + i * 2) x y p q) (first | exact heldS_put hbn T6 (by assumption) _ _ | exact heldS_swap hbn (by omega) (by assumption) | exact heldS_later hbn hb2 (by assumption) | exact heldS_later hbn (Below.refl _ _).drew HC.out | exact heldS_later hbn ((Below.refl _ _).alloc (Nat.le_refl _) _) (by assumption))
          (first
            | (go_at_call 10; refine (C _).mono ?_; rintro e w3 ⟨rfl, hb2⟩; have hz := hb2.size; first | (have T6 := spot_newd (n := n + 1) (by omega) hb2; obtain ⟨_, u1, u2, u3, u4⟩ := id T6.1) | (have T6 := spot_new (n := n + 1) (by omega) hb2; obtain ⟨_, u1, u2, u3, u4⟩ := id T6.1) | skip))
        all_goals
          (first
            | (have T7 := two_put T6.1 0 0; have S7 := heldS_id w n bk (off + i * 2) x y p q 0 0 T6 (by assumption))
            | (have T7 := two_new w3 0 0 23; have S7 : HeldS w n bk (off + i * 2) x y p q (w3.alloc (.cells #[.int .i64 0, .int .i64 0] 23)) := by assumption)
           have H7 := S7.1
           obtain ⟨_, t1, t2, _, _⟩ := id T7
           obtain ⟨r1, ⟨r2, r3, r4, r5, r6⟩, _⟩ := id H7.out
           clear S7 r1 r2 T7
           go_wp2_with fail
           exact sum_end H7.out HN.out rfl rfl rfl rfl)
      · have hyes := add_yes hB
        have C : ∀ w, Calls Tryd.prog 10 #[pv x y, pv p q] w fun e w' => e = .returned (.tuple #[pv (x + p) (y + q), .int .i64 0]) ∧ Below w.heap.size w w' := fun w => by
          have := radd_any x y p q w
          rwa [hyes.1, hyes.2.1, hyes.2.2] at this
        have e := HY.out
        rw [hB, if_pos rfl] at e
        have HX : Hid (sumF (a.drop (i + 1)) (x + p) (y + q) = (X, Y, E)) := e
        clear hyes hB HY e
        go_wp2_with fail
        go_region_held3 (HeldS w n bk (off + i * 2) x y p q) (first | exact heldS_put hbn T6 (by assumption) _ _ | exact heldS_swap hbn (by omega) (by assumption) | exact heldS_later hbn hb2 (by assumption) | exact heldS_later hbn (Below.refl _ _).drew HC.out | exact heldS_later hbn ((Below.refl _ _).alloc (Nat.le_refl _) _) (by assumption))
          (first
            | (go_at_call 10; refine (C _).mono ?_; rintro e w3 ⟨rfl, hb2⟩; have hz := hb2.size; first | (have T6 := spot_newd (n := n + 1) (by omega) hb2; obtain ⟨_, u1, u2, u3, u4⟩ := id T6.1) | (have T6 := spot_new (n := n + 1) (by omega) hb2; obtain ⟨_, u1, u2, u3, u4⟩ := id T6.1) | skip))
        all_goals
          (first
            | (have T7 := two_put T6.1 (x + p) (y + q); have S7 := heldS_id w n bk (off + i * 2) x y p q (x + p) (y + q) T6 (by assumption))
            | (have T7 := two_new w3 (x + p) (y + q) 23; have S7 : HeldS w n bk (off + i * 2) x y p q (w3.alloc (.cells #[.int .i64 (x + p), .int .i64 (y + q)] 23)) := by assumption)
           have H7 := S7.1
           obtain ⟨_, t1, t2, _, _⟩ := id T7
           obtain ⟨r1, _, ⟨r2, r3, r4, r5, r6⟩⟩ := id H7.out
           clear S7 r1 r2 T7
           go_wp2_with fail)
        all_goals go_roundg (gk - 1)
        case measure => omega
        case rel => exact ⟨i + 1, x + p, y + q, by omega, by go_num, H7.out.put _ _, HX.out⟩
        case measure => omega
        case rel => exact ⟨i + 1, x + p, y + q, by omega, by go_num, H7.out.put _ _, HX.out⟩
    · have e := HX.out
      rw [sumF_end hi] at e
      simp only [Prod.mk.injEq] at e
      obtain ⟨rfl, rfl, rfl⟩ := e
      have hd : decide ((i : Int) < (a.length : Int)) = false := by simp; omega
      clear HX
      go_wp2
      exact sum_end HS.out HN.out rfl rfl rfl rfl

end Go.Proofs.YthogncopedfmmaaDoor
