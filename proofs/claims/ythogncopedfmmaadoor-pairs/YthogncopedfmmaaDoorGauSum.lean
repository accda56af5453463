/-
  Package gauss: Sum answers the sum of a row of pairs; the document's own answer to it.
-/
import Derived.Test.YthogncopedfmmaaDoorGauAdd
import Derived.Test.YthogncopedfmmaaDoorPairRows
import Derived.Deep.LoopGhost
import Derived.Deep.RegionHeld3
namespace Go.Proofs.YthogncopedfmmaaDoor
open Go.RowKit
set_option linter.unusedVariables false

/-- From (x, y) on, pair by pair. -/
def sumF : List P2 → Int → Int → Int × Int × Int
  | [], x, y => (x, y, 0)
  | p :: l, x, y => if addB x y p.1 p.2 then sumF l (x + p.1) (y + p.2) else (0, 0, 600)

theorem drop_at (a : List P2) (i : Nat) (h : i < a.length) : a.drop i = at2 a i :: a.drop (i + 1) := by
  rw [List.drop_eq_getElem_cons h]
  simp [at2, List.getD, h]

theorem sumF_end {a : List P2} {i : Nat} {x y : Int} (h : ¬ i < a.length) : sumF (a.drop i) x y = (x, y, 0) := by
  rw [List.drop_eq_nil_of_le (by omega)]; rfl

theorem sumF_step {a : List P2} {i : Nat} {x y : Int} (h : i < a.length) : sumF (a.drop i) x y = if addB x y (at2 a i).1 (at2 a i).2 then sumF (a.drop (i + 1)) (x + (at2 a i).1) (y + (at2 a i).2) else (0, 0, 600) := by
  rw [drop_at a i h]; rfl

/-- What a call of Sum keeps in its first two blocks. -/
abbrev Sum2 (w0 : World) (n : Nat) (x y : Int) (w : World) : Prop := Below n w0 w ∧ Two w n 0 0 ∧ Two w (n + 1) x y

theorem sum2_new (w : World) (t1 t2 : TypeId) : Sum2 w w.heap.size 0 0 ((w.alloc (.cells #[.int .i64 0, .int .i64 0] t1)).alloc (.cells #[.int .i64 0, .int .i64 0] t2)) := by
  refine ⟨((Below.refl _ _).alloc (Nat.le_refl _) _).alloc (by simp) _, (two_new _ _ _ _).alloc _, ?_⟩
  have := two_new (w.alloc (.cells #[.int .i64 0, .int .i64 0] t1)) 0 0 t2
  simpa using this

theorem Sum2.later {w0 w w' : World} {n : Nat} {x y : Int} (h : Sum2 w0 n x y w) (hb : Below w.heap.size w w') : Sum2 w0 n x y w' := by
  obtain ⟨h0, h1, h2⟩ := h
  exact ⟨h0.trans (hb.mono (by have := h1.1; omega)), h1.later hb, h2.later hb⟩

theorem Sum2.put {w0 w : World} {n : Nat} {a b : Int} (h : Sum2 w0 n a b w) (x y : Int) : Sum2 w0 n x y (putTwo w (n + 1) x y) :=
  ⟨below_put h.1 (by omega) _ _, two_put_other h.2.1 (by omega) _ _, two_put h.2.2 _ _⟩

/-- The end of a call of Sum. -/
theorem sum_end {fn : Func} {act : Act} {w w2 : World} {n : Nat} {a b x y z : Int} (h : Sum2 w n a b w2) (hn : w.heap.size = n) (hr : fn.results = #[.cell 2 23, .tmp 3]) (h4 : act.tmps[2]? = some (.pointer (some ⟨n, 0, none⟩))) (h5 : act.tmps[3]? = some (.int .i64 z)) (hd : act.defers = []) :
    bodyPost Tryd.prog fn (fun e w' => e = .returned (.tuple #[pv x y, .int .i64 z]) ∧ Below w.heap.size w w') Exit.ret act (putTwo w2 n x y) :=
  bodyPost_ret (ret_pair2 hr h4 h5 (two_put h.2.1 _ _)) hd ⟨rfl, by rw [hn]; exact below_put h.1 (by omega) _ _⟩

set_option maxHeartbeats 1000000 in
set_option maxRecDepth 100000 in
theorem gsum_any (ao : Option Addr) (ca : Nat) (a : List P2) (w : World) (ha : PRow w ao a) (hla : a.length ≤ maxLen) {X Y E : Int} (h : sumF a 0 0 = (X, Y, E)) :
    Calls Tryd.prog 11 #[.slice ao a.length ca] w fun e w' => e = .returned (.tuple #[pv X Y, .int .i64 E]) ∧ Below w.heap.size w w' := by
  have HA : Hid (PRow w ao a) := ha
  have HE : Hid (sumF a 0 0 = (X, Y, E)) := h
  clear ha h
  unfold maxLen at hla
  have S0 := sum2_new w 23 23
  obtain ⟨n, hn⟩ : ∃ n, w.heap.size = n := ⟨_, rfl⟩
  have HN : Hid (w.heap.size = n) := hn
  go_enter Tryd.func11, Tryd.ntmps11
  go_wp2
  rw [hn] at S0
  clear hn
  go_loopg [11] a.length (fun m iv wr => ∃ (i : Nat) (x y : Int), i + m = a.length ∧ iv = .int .i64 i ∧ Sum2 w n x y wr ∧ Hid (sumF (a.drop i) x y = (X, Y, E)))
  case atStart => exact ⟨0, 0, 0, by omega, rfl, S0, HE.out⟩
  case round =>
    clear S0
    obtain ⟨i, x, y, hin, rfl, hS, HX⟩ := hrel
    have HS : Hid (Sum2 w n x y wr) := hS
    obtain ⟨hbel, ⟨l1, f1, f2, f3, f4⟩, ⟨l2, g1, g2, g3, g4⟩⟩ := hS
    by_cases hi : i < a.length
    · obtain ⟨bk, off, rfl, hb, hc⟩ := HA.out (by omega)
      have hx1 := (hbel.cell (p := ⟨bk, off + i * 2, none⟩) (by have := HN.out; exact (by omega : bk < n))).trans (hc i hi).1
      have hx2 := (hbel.cell (p := ⟨bk, off + i * 2 + 1, none⟩) (by have := HN.out; exact (by omega : bk < n))).trans (hc i hi).2
      have HX2 := HX.out
      rw [sumF_step hi] at HX2
      obtain ⟨p, hp⟩ : ∃ p, p = (at2 a i).1 := ⟨_, rfl⟩
      obtain ⟨q, hq⟩ : ∃ q, q = (at2 a i).2 := ⟨_, rfl⟩
      rw [← hp, ← hq] at HX2
      rw [← hp] at hx1
      rw [← hq] at hx2
      have HY : Hid ((if addB x y p q then sumF (a.drop (i + 1)) (x + p) (y + q) else (0, 0, 600)) = (X, Y, E)) := HX2
      clear hc hp hq HX2 HX hbel f1 f2 f3 f4 l1 g3 g4
      go_wp2_with fail
      have C := gadd_any x y p q (wr.alloc (.cells #[.int .i64 p, .int .i64 q] 23))
      cases hB : addB x y p q
      · have hno := add_no hB
        rw [hno.1, hno.2.1, hno.2.2] at C
        have e := HY.out
        rw [hB, if_neg (by simp)] at e
        simp only [Prod.mk.injEq] at e
        obtain ⟨rfl, rfl, rfl⟩ := e
        refine C.mono ?_
        rintro e w1 ⟨rfl, k1⟩
        have S1 : Hid (Sum2 w n x y (w1.alloc (.cells #[.int .i64 0, .int .i64 0] 23))) := ((HS.out.later ((Below.refl _ _).alloc (Nat.le_refl _) _)).later k1).later ((Below.refl _ _).alloc (Nat.le_refl _) _)
        obtain ⟨r1, ⟨r2, r3, r4, r5, r6⟩, _⟩ := S1.out
        clear C hno k1 hB HY
        go_wp2_with fail
        exact sum_end S1.out HN.out rfl rfl rfl rfl
      · have hyes := add_yes hB
        rw [hyes.1, hyes.2.1, hyes.2.2] at C
        have e := HY.out
        rw [hB, if_pos rfl] at e
        have HX : Hid (sumF (a.drop (i + 1)) (x + p) (y + q) = (X, Y, E)) := e
        refine C.mono ?_
        rintro e w1 ⟨rfl, k1⟩
        have S1 : Hid (Sum2 w n x y (w1.alloc (.cells #[.int .i64 (x + p), .int .i64 (y + q)] 23))) := ((HS.out.later ((Below.refl _ _).alloc (Nat.le_refl _) _)).later k1).later ((Below.refl _ _).alloc (Nat.le_refl _) _)
        obtain ⟨r1, _, ⟨r2, r3, r4, r5, r6⟩⟩ := S1.out
        clear C hyes k1 hB HY
        go_wp2_with fail
        go_roundg (gk - 1)
        case measure => omega
        case rel => exact ⟨i + 1, x + p, y + q, by omega, by go_num, S1.out.put _ _, HX.out⟩
    · have e := HX.out
      rw [sumF_end hi] at e
      simp only [Prod.mk.injEq] at e
      obtain ⟨rfl, rfl, rfl⟩ := e
      have hd : decide ((i : Int) < (a.length : Int)) = false := by simp; omega
      clear HX
      go_wp2
      exact sum_end HS.out HN.out rfl rfl rfl rfl

end Go.Proofs.YthogncopedfmmaaDoor
