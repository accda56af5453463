/-
  The walk of the law Matrices: package matrix answers what the document's own matrix answers, whatever it is told.
-/
import Derived.Test.YtdaakacjgkafcaaAwake5
import Derived.Test.YtdaakacjgkafcaaRefMatNew
import Derived.Test.YtdaakacjgkafcaaRefMat
import Derived.Test.YtdaakacjgkafcaaMatTwo
import Derived.Test.YtdaakacjgkafcaaTolds
import Derived.Test.YtdaakacjgkafcaaIntsN
import Derived.Deep.RegionHeld3
namespace Go.Proofs.Ytdaakacjgkafcaa.Matrices
open Go.RowKit
set_option linter.unusedVariables false

theorem bad (nodes : Int) (ao : Option Addr) (n cap : Nat) (w : World) (h : ¬ (1 ≤ nodes ∧ nodes ≤ 16)) :
    Calls Try.prog 3 #[.int .i64 nodes, .slice ao n cap] w fun e w' => e = .returned (.bool true) ∧ Below w.heap.size w w' := by
  have C1 := newBad_any nodes w h
  have C2 := refNewBad_any nodes w h
  clear h
  go_enter Try.func3, Try.ntmps3
  go_wp2_with fail
  refine C1.mono ?_
  rintro e w1 ⟨rfl, rfl⟩
  go_wp2_with fail
  refine C2.mono ?_
  rintro e w2 ⟨rfl, rfl⟩
  clear C1 C2
  go_wp2_with (go_at_call 8; refine (num_any _ _).mono ?_; rintro e w0 ⟨rfl, rfl⟩)
  refine (awake5_any _).mono ?_
  rintro e w3 ⟨rfl, h3⟩
  go_wp2
  go_ret
  exact ⟨rfl, h3⟩

theorem row_head {w : World} {ao : Option Addr} {a m : List Int} (h : RowAt w ao (a ++ m)) : RowAt w ao a := fun h0 => by
  obtain ⟨b, off, h1, h2, h3⟩ := h (by simp; omega)
  refine ⟨b, off, h1, h2, fun i hi => ?_⟩
  rw [h3 i (by simp; omega)]
  simp [List.getD, List.getElem?_append_left hi]

set_option maxHeartbeats 4000000 in
set_option maxRecDepth 100000 in
theorem core (k n : Nat) (ao : Option Addr) (cap : Nat) (w : World) (hk1 : 1 ≤ k) (hk2 : k ≤ 16) (hn : n ≤ maxLen) (hts : 0 < n → ∃ b off, ao = some ⟨b, off, none⟩ ∧ b < w.heap.size ∧ ∀ i, i < n → ∃ N V, ToldAt w b off i N V) :
    Calls Try.prog 3 #[.int .i64 (k : Int), .slice ao n cap] w fun e w' => e = .returned (.bool true) ∧ Below w.heap.size w w' := by
  have HT : Hid (0 < n → ∃ b off, ao = some ⟨b, off, none⟩ ∧ b < w.heap.size ∧ ∀ i, i < n → ∃ N V, ToldAt w b off i N V) := hts
  unfold maxLen at hn
  obtain ⟨c, hc⟩ : ∃ c, c = min n 40 := ⟨_, rfl⟩
  have hc1 : c ≤ 40 := by omega
  have HC : Hid (c = min n 40) := hc
  clear hts hc
  go_enter Try.func3, Try.ntmps3
  go_wp2_with fail
  refine (new_any k w hk1 hk2).mono ?_
  rintro e w1 ⟨F1, P1, rfl, m1, f1, h1⟩
  go_wp2_with fail
  refine (refNew_any k w1 hk1 hk2).mono ?_
  rintro e w2 ⟨F2, P2, rfl, m2, f2, h2⟩
  have T2 : MatTwo w w2 F1 F2 P1 P2 (Mx.zeros k) (Mx.zeros k) none [] := by
    refine ⟨m1.later h2, m2, fun x hx => ⟨fun hy => ?_, f1 x hx⟩, fun x hx => Nat.le_trans h1.size (f2 x hx), thenB h1 h2, RowAt.nil _ _, fun b off e => by simp at e⟩
    have := m1.lt hx
    have := f2 x hy
    omega
  clear m1 m2 f1 f2 h1 h2
  have G0 : Mx.Good (Mx.zeros k) := Mx.good_zeros hk1 hk2
  go_wp2_with (go_at_call 8; refine (num_any _ _).mono ?_; rintro e w0 ⟨rfl, rfl⟩)
  refine (least_any F1 P1 _ _ T2.1 G0).mono ?_
  rintro e w3 ⟨lo, lc, rfl, r3, h3⟩
  have T3 := (T2.later h3).last (lo' := lo) (L' := Mx.least (Mx.zeros k)) r3.row (fun b off e => by
    obtain ⟨b', off', e', hB, hlt⟩ := r3.from (by rw [Mx.least_length G0, Mx.zeros_length]; exact hk1)
    rw [e'] at e
    simp only [Option.some.injEq, Addr.mk.injEq] at e
    have := T2.fresh (x := b) (by omega)
    exact ⟨this.1, this.2.1, by omega⟩)
  have eL : (Mx.least (Mx.zeros k)).length = k := by rw [Mx.least_length G0, Mx.zeros_length]
  rw [eL]
  have HT3 : Hid (MatTwo w w3 F1 F2 P1 P2 (Mx.zeros k) (Mx.zeros k) lo (Mx.least (Mx.zeros k)) ∧ Mx.Good (Mx.zeros k)) := ⟨T3, G0⟩
  clear T2 T3 r3 h3 G0 eL
  go_wp2
  go_loopg [10, 9] c (fun m iv sv wr => ∃ i : Nat, i + m = c ∧ iv = .int .i64 i ∧ ∃ F1 F2 rows lo lc, sv = .slice lo k lc ∧ Mx.Good rows ∧ rows.length = k ∧ MatTwo w wr F1 F2 P1 P2 rows rows lo (Mx.least rows))
  case atStart => exact ⟨0, by omega, rfl, F1, F2, _, lo, lc, rfl, HT3.out.2, Mx.zeros_length k, HT3.out.1⟩
  case round =>
    clear HT3
    obtain ⟨i, hin, rfl, F1, F2, rows, lo, lc, rfl, hg, hrl, T⟩ := hrel
    have HG : Hid (Mx.Good rows ∧ rows.length = k ∧ MatTwo w wr F1 F2 P1 P2 rows rows lo (Mx.least rows)) := ⟨hg, hrl, T⟩
    clear hg hrl T
    by_cases hi : i < c
    · have hi1 : i < n := by have := HC.out; omega
      have hi2 : i < 40 := by omega
      obtain ⟨tb, off, rfl, htb, htold⟩ := HT.out (by omega)
      obtain ⟨N, V, hT⟩ := htold i hi1
      obtain ⟨rows', ee, hL⟩ := Mx.learnt_of rows N V
      obtain ⟨y1, y2, vo, vc, y3, y4⟩ := hT
      have TS : Hid (∀ W, Below w.heap.size w W → (W.cell? ⟨tb, off + i * 2, none⟩ = some (.int .i64 N) ∧ W.cell? ⟨tb, off + i * 2 + 1, none⟩ = some (.slice vo V.length vc)) ∧ RowAt W vo V) := fun W hW => ⟨⟨(hW.cell (by exact htb)).trans y1, (hW.cell (by exact htb)).trans y3⟩, y4.later hW⟩
      have HL : Hid (Mx.Learnt rows N V rows' ee ∧ V.length * 8 ≤ 140737488351232 ∧ V.length ≤ maxLen ∧ Mx.Good rows' ∧ rows'.length = k ∧ (Mx.least rows).length = k ∧ (Mx.least rows').length = k ∧ Ve.Under (Mx.least rows) (Mx.least rows')) := by
        have g := HG.out.1.learnt hL
        refine ⟨hL, y2, by unfold maxLen; omega, g.1, g.2.trans HG.out.2.1, (Mx.least_length HG.out.1).trans HG.out.2.1, (Mx.least_length g.1).trans (g.2.trans HG.out.2.1), Mx.least_grows HG.out.1 hL⟩
      have hk3 : k ≤ maxLen := by unfold maxLen; omega
      have HK : Hid (k ≤ maxLen ∧ k * 8 ≤ 140737488351232) := ⟨hk3, by omega⟩
      clear htold y1 y2 y3 y4 hL hk3
      obtain ⟨⟨t1, t3⟩, _⟩ := TS.out wr HG.out.2.2.below
      go_wp2_with fail
      refine (lend_own vo vc V wr (TS.out wr HG.out.2.2.below).2 HL.out.2.1).mono ?_
      rintro e w4 ⟨g, gc, rfl, o4, hgc, hg1, hg2, h4⟩
      have T4 := HG.out.2.2.later h4
      have HX : Hid (OwnAt wr.heap.size w4 (some ⟨g, 0, none⟩) (V ++ [-7777, -8888]) ∧ V.length + 2 ≤ gc ∧ wr.heap.size ≤ g ∧ g < w4.heap.size ∧ MatTwo w w4 F1 F2 P1 P2 rows rows lo (Mx.least rows)) := ⟨o4, hgc, hg1, hg2, T4⟩
      clear o4 hgc hg1 hg2 h4 T4 t1 t3
      obtain ⟨⟨t1, t3⟩, _⟩ := TS.out w4 HX.out.2.2.2.2.below
      go_wp2_with fail
      refine (learn_any F1 P1 rows N (some ⟨g, 0, none⟩) gc V w4 HX.out.2.2.2.2.1 HG.out.1 (row_head HX.out.1.row) HL.out.1).mono ?_
      rintro e w5 ⟨rfl, ⟨F1', m5, f5⟩, k5⟩
      have T5 := (HX.out.2.2.2.2.learn1 k5 m5 f5).drew
      have ng := HG.out.2.2.fresh HX.out.2.2.1
      have o5 := HX.out.1.kept k5 (fun b off e => by
        simp only [Option.some.injEq, Addr.mk.injEq] at e
        rw [← e.1]; exact ng.1)
      have nf : ¬ F1' g := fun h => by
        rcases f5 g h with h | h
        · exact ng.1 h
        · have := HX.out.2.2.2.1; omega
      have gl : g < w5.heap.size := Nat.lt_of_lt_of_le HX.out.2.2.2.1 k5.size
      have HY : Hid (MatTwo w w5.drew F1' F2 P1 P2 rows' rows lo (Mx.least rows) ∧ OwnAt wr.heap.size w5.drew (some ⟨g, 0, none⟩) (V ++ [-7777, -8888]) ∧ ¬ F1' g ∧ ¬ F2 g ∧ g < w5.drew.heap.size ∧ w.heap.size ≤ g ∧ ∀ off, lo ≠ some ⟨g, off, none⟩) := ⟨T5, o5, nf, ng.2.1, gl, ng.2.2.1, ng.2.2.2⟩
      have LC := refLearn_any F2 P2 rows N vo vc V w5.drew HY.out.1.2.1 HG.out.1 (TS.out _ HY.out.1.below).2 HL.out.2.2.1 HL.out.1
      have hdd : (ee != ee) = false := by simp
      clear T5 m5 f5 k5 ng o5 nf gl t1 t3
      go_wp2_with fail
      go_region_held3 (fun W => W.cell? ⟨tb, off + i * 2, none⟩ = some (.int .i64 N) ∧ W.cell? ⟨tb, off + i * 2 + 1, none⟩ = some (.slice vo V.length vc))
        (first
          | exact (TS.out _ ((HY.out.1.learn2 k6 m6 f6).later h7).below).1
          | exact (TS.out _ (HY.out.1.learn2 k6 m6 f6).below).1
          | exact (TS.out _ HY.out.1.below).1)
        (first
          | (go_at_call 8; refine (num_any _ _).mono ?_; rintro e wz ⟨rfl, rfl⟩)
          | (go_at_call 13; refine LC.mono ?_; rintro e w6 ⟨rfl, ⟨F2', m6, f6⟩, k6⟩)
          | (go_at_call 14; refine (kept_any g gc vo vc V _ (TS.out _ (HY.out.1.learn2 k6 m6 f6).below).2 (HY.out.2.1.kept k6 (by intro b o e; simp only [Option.some.injEq, Addr.mk.injEq] at e; rw [← e.1]; exact HY.out.2.2.2.1)).row HX.out.2.1 HL.out.2.1).mono ?_; rintro e w7 ⟨rfl, h7, _⟩))
      have T6 := HY.out.1.learn2 k6 m6 f6
      have n6 : ¬ F2' g := fun h => by
        rcases f6 g h with h | h
        · exact HY.out.2.2.2.1 h
        · have := HY.out.2.2.2.2.1; omega
      have o6 := HY.out.2.1.kept k6 (fun b off e => by
        simp only [Option.some.injEq, Addr.mk.injEq] at e
        rw [← e.1]; exact HY.out.2.2.2.1)
      have H7 : Hid (MatTwo w w7 F1' F2' P1 P2 rows' rows' lo (Mx.least rows) ∧ OwnAt wr.heap.size w7 (some ⟨g, 0, none⟩) V ∧ ¬ F2' g) := ⟨T6.later h7, own_head (o6.later h7), n6⟩
      clear T6 n6 o6 m6 f6 k6 h7 LC
      rename_i hS7
      clear hS7
      go_wp2_with fail
      refine (spoil_n rfl H7.out.2.1 HL.out.2.2.1).mono ?_
      rintro e w8 ⟨rfl, k8⟩
      have T8 := H7.out.1.spoil k8 (fun x ⟨_, o, e⟩ => by
        simp only [Option.some.injEq, Addr.mk.injEq] at e
        rw [← e.1]
        exact ⟨HY.out.2.2.1, H7.out.2.2, HY.out.2.2.2.2.2.1, HY.out.2.2.2.2.2.2⟩)
      have H8 : Hid (MatTwo w w8 F1' F2' P1 P2 rows' rows' lo (Mx.least rows)) := T8
      clear T8 k8 H7 HY HX
      first | go_end0 | skip
      have C9 := least_any F1' P1 rows' w8 H8.out.1 HL.out.2.2.2.1
      rw [HL.out.2.2.2.2.2.2.1] at C9
      go_wp2_with fail
      refine C9.mono ?_
      rintro e w9 ⟨so, sc, rfl, o9, h9⟩
      clear C9
      have T9 := H8.out.later h9
      have C10 := refLeast_any F2' P2 rows' w9 T9.2.1 HL.out.2.2.2.1
      rw [HL.out.2.2.2.2.2.2.1] at C10
      go_wp2_with fail
      refine C10.mono ?_
      rintro e w10 ⟨qo, qc, rfl, r10, h10⟩
      clear C10
      have T10 := T9.later h10
      have o10 := o9.later h10
      clear T9 o9
      go_wp2_with fail
      refine (same_n (a := Mx.least rows') (b := Mx.least rows') HL.out.2.2.2.2.2.2.1 HL.out.2.2.2.2.2.2.1 o10.row r10 (by rw [HL.out.2.2.2.2.2.2.1]; exact HK.out.1) (r := true) (by simp)).mono ?_
      rintro e w11 ⟨rfl, h11⟩
      have T11 := T10.later h11
      have o11 := o10.later h11
      clear T10 o10 r10
      go_wp2_with fail
      refine (refUnder_n (a := Mx.least rows) (b := Mx.least rows') HL.out.2.2.2.2.2.1 HL.out.2.2.2.2.2.2.1 T11.2.2.2.2.2.1 o11.row (by rw [HL.out.2.2.2.2.2.1]; exact HK.out.1) (by rw [HL.out.2.2.2.2.2.2.1]; exact HK.out.1) (r := true) (by simp [HL.out.2.2.2.2.2.2.2])).mono ?_
      rintro e w12 ⟨rfl, h12⟩
      have T12 := T11.later h12
      have o12 := o11.later h12
      clear T11 o11
      go_wp2_with fail
      refine (copy_n (a := Mx.least rows') HL.out.2.2.2.2.2.2.1 o12.row (by rw [HL.out.2.2.2.2.2.2.1]; exact HK.out.2)).mono ?_
      rintro e w13 ⟨g2, c2, rfl, o13, hg1, hg2, h13⟩
      have sz : w8.heap.size ≤ w12.heap.size := Nat.le_trans h9.size (Nat.le_trans h10.size (Nat.le_trans h11.size h12.size))
      have T13 := (T12.later h13).last (lo' := some ⟨g2, 0, none⟩) o13.row (fun b off e => by
        simp only [Option.some.injEq, Addr.mk.injEq] at e
        rw [← e.1]
        have := T12.fresh hg1
        exact ⟨this.1, this.2.1, hg2⟩)
      have H13 : Hid (MatTwo w w13 F1' F2' P1 P2 rows' rows' (some ⟨g2, 0, none⟩) (Mx.least rows') ∧ OwnAt w8.heap.size w13 so (Mx.least rows') ∧ ∀ x, w8.heap.size ≤ x → x < w12.heap.size → ¬ F1' x ∧ ¬ F2' x ∧ w.heap.size ≤ x ∧ x < g2) := ⟨T13, o12.later h13, fun x hx hx2 => by
        have := H8.out.fresh hx
        exact ⟨this.1, this.2.1, this.2.2.1, by omega⟩⟩
      have o12lt : ∀ b off, so = some ⟨b, off, none⟩ → b < w12.heap.size := fun b off e => by
        obtain ⟨b', off', e', _, hlt⟩ := o12.from (by rw [HL.out.2.2.2.2.2.2.1]; exact hk1)
        rw [e'] at e
        simp only [Option.some.injEq, Addr.mk.injEq] at e
        omega
      have HLT : Hid (∀ b off, so = some ⟨b, off, none⟩ → b < w12.heap.size) := o12lt
      clear T12 T13 o12 o13 hg1 hg2 h9 h10 h11 h12 h13 sz o12lt
      go_wp2_with fail
      refine (spoil_n (a := Mx.least rows') HL.out.2.2.2.2.2.2.1 H13.out.2.1 (by rw [HL.out.2.2.2.2.2.2.1]; exact HK.out.1)).mono ?_
      rintro e w14 ⟨rfl, k14⟩
      have T14 := H13.out.1.spoil k14 (fun x ⟨h0, o, e⟩ => by
        obtain ⟨b', off', e', hB, _⟩ := H13.out.2.1.from h0
        have e2 := e
        rw [e'] at e2
        simp only [Option.some.injEq, Addr.mk.injEq] at e2
        have := H13.out.2.2 x (by omega) (HLT.out x o e)
        refine ⟨this.1, this.2.1, this.2.2.1, fun off hh => ?_⟩
        simp only [Option.some.injEq, Addr.mk.injEq] at hh
        omega)
      have H14 : Hid (MatTwo w w14 F1' F2' P1 P2 rows' rows' (some ⟨g2, 0, none⟩) (Mx.least rows')) := T14
      clear T14 k14 H13 HLT H8
      first | go_end0 | skip
      obtain ⟨n1, hn1⟩ : ∃ n1, n1 = gk := ⟨_, rfl⟩
      go_wp2_with fail
      go_loopg [14] (k + 2) (fun m iv wy => ∃ j : Nat, j + m = k + 2 ∧ iv = .int .i64 ((j : Int) - 1) ∧ MatTwo w wy F1' F2' P1 P2 rows' rows' (some ⟨g2, 0, none⟩) (Mx.least rows'))
      case atStart => exact ⟨0, by omega, rfl, H14.out⟩
      case round =>
        clear H14
        obtain ⟨j, hjn, rfl, TT⟩ := hrel
        have H15 : Hid (MatTwo w wr F1' F2' P1 P2 rows' rows' (some ⟨g2, 0, none⟩) (Mx.least rows')) := TT
        clear TT
        by_cases hj : j < k + 2
        · have hd1 : decide ((j : Int) - 1 ≤ (k : Int)) = true := by simp; omega
          obtain ⟨l, en, hR⟩ := Mx.rowed_of rows' ((j : Int) - 1)
          have ll : l.length ≤ maxLen := by
            rcases hR with ⟨h, rfl, _⟩ | ⟨_, rfl, _⟩
            · rw [HL.out.2.2.2.1.row (by have := h.1; have := h.2; omega), HL.out.2.2.2.2.1]; exact HK.out.1
            · simp
          have HR : Hid (Mx.Rowed rows' ((j : Int) - 1) l en ∧ l.length ≤ maxLen) := ⟨hR, ll⟩
          have hde : (en != en) = false := by simp
          clear hR ll
          go_wp2_with fail
          refine (row_any F1' P1 rows' _ wr H15.out.1 HL.out.2.2.2.1 HR.out.1).mono ?_
          rintro e w16 ⟨ro, rc, rfl, o16, h16⟩
          have T16 := H15.out.later h16
          go_wp2_with fail
          refine (refRow_any F2' P2 rows' _ w16 T16.2.1 HR.out.1).mono ?_
          rintro e w17 ⟨ro2, rc2, rfl, r17, rfl⟩
          go_wp2_with fail
          refine (same_b ro ro2 rc rc2 l l _ o16.row r17 HR.out.2 (r := true) (by simp)).mono ?_
          rintro e w18 ⟨rfl, h18⟩
          have T18 := T16.later h18
          have o18 := o16.later h18
          have H18 : Hid (MatTwo w w18 F1' F2' P1 P2 rows' rows' (some ⟨g2, 0, none⟩) (Mx.least rows') ∧ OwnAt wr.heap.size w18 ro l) := ⟨T18, o18⟩
          clear T16 T18 o16 o18 r17 h16 h18
          go_wp2_with (go_at_call 8; refine (num_any _ _).mono ?_; rintro e w0 ⟨rfl, rfl⟩)
          refine (spoil_n (a := l) rfl H18.out.2 HR.out.2).mono ?_
          rintro e w19 ⟨rfl, k19⟩
          have T19 := H18.out.1.spoil k19 (fun x ⟨h0, o, e⟩ => by
            obtain ⟨b', off', e', hB, _⟩ := H18.out.2.from h0
            rw [e'] at e
            simp only [Option.some.injEq, Addr.mk.injEq] at e
            exact H15.out.fresh (by omega))
          have H19 : Hid (MatTwo w w19 F1' F2' P1 P2 rows' rows' (some ⟨g2, 0, none⟩) (Mx.least rows')) := T19
          clear T19 k19 H18
          first | go_end0 | skip
          go_wp2
          go_roundg (gk - 1)
          case measure => omega
          case rel => exact ⟨j + 1, by omega, by go_num, H19.out⟩
        · have hd1 : decide ((j : Int) - 1 ≤ (k : Int)) = false := by simp; omega
          go_wp2
          go_roundg (n1 - 1)
          case measure => omega
          case rel => exact ⟨i + 1, by omega, by go_num, F1', F2', rows', _, c2, rfl, HL.out.2.2.2.1, HL.out.2.2.2.2.1, H15.out⟩
    · have hfin : ∀ W, Calls Try.prog 9 #[] W fun e w' => e = .returned (.bool true) ∧ Below W.heap.size W w' := awake5_any
      by_cases hi1 : i < n
      · have hi2 : ¬ i < 40 := by have := HC.out; omega
        have hd1 : decide ((i : Int) < (n : Int)) = true := by simp; omega
        have hd2 : decide ((i : Int) < 40) = false := by simp; omega
        go_wp2_with fail
        refine (hfin _).mono ?_
        rintro e w3 ⟨rfl, h3⟩
        go_wp2
        go_ret
        exact ⟨rfl, thenB HG.out.2.2.below h3⟩
      · have hd1 : decide ((i : Int) < (n : Int)) = false := by simp; omega
        go_wp2_with fail
        refine (hfin _).mono ?_
        rintro e w3 ⟨rfl, h3⟩
        go_wp2
        go_ret
        exact ⟨rfl, thenB HG.out.2.2.below h3⟩

theorem walk {H : Type} {enc : TypeId × Value → H} {base : Nat} {d1 : DataW H} {p1 : List MemPlace} (nodes : Int) (v1 : Value) (w : World) (h0 : (Lit.int .i64 nodes).wf = true)
    (o1 : Value.okWide Try.prog w .any base 22 v1) (h1 : DataW.Trod enc Try.prog w 0 (fun _ => true) true 22 v1 d1 p1) (z1 : ∀ n, n ∈ DataW.weights Try.prog 22 d1 → n ≤ reachBytes) :
    Calls Try.prog 3 #[.int .i64 nodes, v1] w fun e w' => e = .returned (.bool true) ∧ Below w.heap.size w w' := by
  obtain ⟨n, ao, cap, rfl, hn, hts⟩ := isTolds_of o1 h1 z1
  by_cases h : 1 ≤ nodes ∧ nodes ≤ 16
  · obtain ⟨k, rfl⟩ : ∃ k : Nat, nodes = k := ⟨nodes.toNat, by omega⟩
    exact core k n ao cap w (by omega) (by omega) hn hts
  · exact bad nodes ao n cap w h

end Go.Proofs.Ytdaakacjgkafcaa.Matrices
