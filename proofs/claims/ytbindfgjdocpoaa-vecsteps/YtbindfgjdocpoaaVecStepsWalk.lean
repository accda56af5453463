/-
  The walk of the law VecSteps: dots that come one by one are in the vector from then on; a vector is under another one just if that has all of its dots.
-/
import Derived.Test.YtbindfgjdocpoaaAwake4
import Derived.Test.YtbindfgjdocpoaaMasks
import Derived.Test.YtbindfgjdocpoaaMadeInts
import Derived.Test.YtbindfgjdocpoaaVeSteps
namespace Go.Proofs.Ytbindfgjdocpoaa.VecSteps
open Go.RowKit
set_option linter.unusedVariables false

theorem has_n {ao : Option Addr} {cap : Nat} {l : List Int} {n : Nat} {k s : Int} {w : World} {b : Bool} (hl : l.length = n) (hr : RowAt w ao l) (h : b = true ↔ Ve.Has l k s) :
    Calls Try.prog 18 #[.slice ao n cap, .agg #[.int .i64 k, .int .i64 s]] w fun e w' => e = .returned (.bool b) ∧ Below w.heap.size w w' := by
  subst hl
  exact has_any ao cap l k s w hr h

theorem same_n {ao bo : Option Addr} {ca cb : Nat} {a b : List Int} {n m : Nat} {w : World} {r : Bool} (hl : a.length = n) (hm : b.length = m) (ha : RowAt w ao a) (hb : RowAt w bo b) (hla : n ≤ maxLen) (h : r = true ↔ a = b) :
    Calls Try.prog 13 #[.slice ao n ca, .slice bo m cb] w fun e w' => e = .returned (.bool r) ∧ Below w.heap.size w w' := by
  subst hl hm
  exact same_b ao bo ca cb a b w ha hb hla h

theorem yes_iff {P : Prop} (h : P) : true = true ↔ P := ⟨fun _ => h, fun _ => rfl⟩
theorem no_iff {P : Prop} (h : ¬ P) : false = true ↔ P := by simp [h]

theorem row_three (w : World) (x y z : Int) : OwnAt w.heap.size (w.alloc (.cells #[.int .i64 x, .int .i64 y, .int .i64 z] 3)) (some ⟨w.heap.size, 0, none⟩) [x, y, z] := fun _ => by
  refine ⟨w.heap.size, 0, rfl, Nat.le_refl _, by simp, fun i hi => ⟨?_, World.frozen?_alloc_at _ _ _ _ rfl⟩⟩
  match i, hi with
  | 0, _ => simp [World.cell?_alloc_at]
  | 1, _ => simp [World.cell?_alloc_at]
  | 2, _ => simp [World.cell?_alloc_at]

theorem own_other {B g g' : Nat} {w : World} {l : List Int} (h : OwnAt B w (some ⟨g', 0, none⟩) l) (hne : g ≠ g') (j : Nat) (v : Value) : OwnAt B (w.setCell ⟨g, j, none⟩ v) (some ⟨g', 0, none⟩) l := fun h0 => by
  obtain ⟨b, off, e, hB, hb, hc⟩ := h h0
  simp only [Option.some.injEq, Addr.mk.injEq, and_true] at e
  obtain ⟨rfl, rfl⟩ := e
  refine ⟨g', 0, rfl, hB, by simpa using hb, fun i hi => ?_⟩
  rw [World.frozen?_setCell, World.cell?_setCell_other _ _ _ _ (by first | (simp; done) | (simp; omega))]
  exact hc i hi

theorem shr_and (x : Int) : ∃ t : Nat, bits .and .i64 (x / 1024) 1 = (t : Int) := by
  obtain ⟨z, _, h⟩ := and_mask (x / 1024) 1 (by omega)
  exact ⟨z, h⟩

set_option maxHeartbeats 4000000 in
set_option maxRecDepth 100000 in
theorem core (ao : Option Addr) (ca : Nat) (a : List Int) (w : World) (ha : RowAt w ao a) (hla : a.length ≤ maxLen) :
    Calls Try.prog 7 #[.slice ao a.length ca] w fun e w' => e = .returned (.bool true) ∧ Below w.heap.size w w' := by
  have HA : Hid (RowAt w ao a) := ha
  clear ha
  unfold maxLen at hla
  go_enter Try.func7, Try.ntmps7
  go_wp2_with fail
  refine (awake_any _).mono ?_
  rintro e w1 ⟨rfl, h1⟩
  obtain ⟨g, hg⟩ : ∃ g, w1.heap.size = g := ⟨_, rfl⟩
  have O1 := (row_three w1 0 0 0).later (below_alloc _ (.cells #[.int .i64 0, .int .i64 0, .int .i64 0] 3))
  have O2 := row_three (w1.alloc (.cells #[.int .i64 0, .int .i64 0, .int .i64 0] 3)) 0 0 0
  rw [World.size_alloc, hg] at O2
  rw [hg] at O1
  have B2 := thenB (thenB h1 (below_alloc w1 (.cells #[.int .i64 0, .int .i64 0, .int .i64 0] 3))) (below_alloc _ (.cells #[.int .i64 0, .int .i64 0, .int .i64 0] 3))
  have HG : Hid (w.heap.size ≤ g) := by rw [← hg]; exact h1.size
  go_wp2_with fail
  go_loopg [5] 30 (fun n iv wr => ∃ (i : Nat) (V W : List Int), i + n = 30 ∧ i ≤ a.length ∧ iv = .int .i64 i ∧ Ve.St V W i ∧ OwnAt g wr (some ⟨g, 0, none⟩) V ∧ OwnAt g wr (some ⟨g + 1, 0, none⟩) W ∧ Below w.heap.size w wr)
  case atStart => exact ⟨0, [0, 0, 0], [0, 0, 0], by omega, by omega, rfl, Ve.st_zero, O1, O2.mono (by omega), B2⟩
  case round =>
    clear O1 O2 B2 h1
    obtain ⟨i, V, W, hin, hi, rfl, hst, hV, hW, hbel⟩ := hrel
    have HS : Hid (Ve.St V W i ∧ OwnAt g wr (some ⟨g, 0, none⟩) V ∧ OwnAt g wr (some ⟨g + 1, 0, none⟩) W) := ⟨hst, hV, hW⟩
    clear hst hV hW
    by_cases hlt : i < a.length ∧ i < 30
    · obtain ⟨hi1, hi2⟩ := hlt
      obtain ⟨bk, off, rfl, hb, hc⟩ := HA.out (by omega)
      obtain ⟨x, hx⟩ : ∃ x, x = a.getD i 0 := ⟨_, rfl⟩
      have hcx : wr.cell? ⟨bk, off + i, none⟩ = some (.int .i64 x) := by
        rw [hbel.cell (by exact hb), hc i hi1, hx]
      clear hx hc
      have hbx : bk < wr.heap.size := Nat.lt_of_lt_of_le hb hbel.size
      obtain ⟨z, hz, ez⟩ : ∃ z : Nat, z < 1024 ∧ bits .and .i64 x 1023 = (z : Int) := and_mask x 10 (by omega)
      obtain ⟨k, hk3, ek⟩ : ∃ k : Nat, k < 3 ∧ (z : Int).tmod 3 = (k : Int) := ⟨z % 3, by omega, by rw [Int.tmod_eq_emod_of_nonneg (by omega)]; omega⟩
      obtain ⟨y, hy⟩ : ∃ y, V.getD k 0 = y := ⟨_, rfl⟩
      have hkV : k < V.length := by rw [HS.out.1.1]; exact hk3
      have hkW : k < W.length := by rw [HS.out.1.2.1]; exact hk3
      have hy0 : 0 ≤ y := by have := HS.out.1.2.2 k hk3; omega
      have hy1 : y ≤ 30 := by have := HS.out.1.2.2 k hk3; omega
      have cV := HS.out.2.1.cellAt hkV
      rw [hy] at cV
      have cV0 := cV.1
      have HY : Hid (V.getD k 0 = y) := hy
      clear cV hy
      have hgw : g + 1 < wr.heap.size := by
        obtain ⟨b2, o2, e2, _, hb2, _⟩ := HS.out.2.2 (by omega)
        simp only [Option.some.injEq, Addr.mk.injEq] at e2
        omega
      go_wp2_with fail
      refine (has_n HS.out.1.1 (HS.out.2.1.row.later (below_alloc _ _)) (no_iff (by have := Ve.has_past V k; rw [HY.out] at this; exact this))).mono ?_
      rintro e w3 ⟨rfl, h3⟩
      have h3s := h3.size
      rw [World.size_alloc] at h3s
      have c30 : w3.cell? ⟨wr.heap.size, 0, none⟩ = some (.int .i64 (k : Int)) := by
        rw [h3.cell (by simp)]; simp [World.cell?_alloc_at]
      have c31 : w3.cell? ⟨wr.heap.size, 1, none⟩ = some (.int .i64 (y + 1)) := by
        rw [h3.cell (by simp)]; simp [World.cell?_alloc_at]
      have b3 : Below wr.heap.size wr w3 := thenB (below_alloc wr _) h3
      have V3 : OwnAt g w3 (some ⟨g, 0, none⟩) V := HS.out.2.1.later b3
      have W3 : OwnAt g w3 (some ⟨g + 1, 0, none⟩) W := HS.out.2.2.later b3
      have cV3 := V3.cellAt hkV
      rw [HY.out] at cV3
      have cV30 := cV3.1
      have cV31 := cV3.2
      have V4 := V3.set hkV (y + 1)
      have W4 := own_other (g := g) W3 (by omega) k (.int .i64 (y + 1))
      have c40 : (w3.setCell ⟨g, k, none⟩ (.int .i64 (y + 1))).cell? ⟨wr.heap.size, 0, none⟩ = some (.int .i64 (k : Int)) := by
        rw [World.cell?_setCell_other _ _ _ _ (by first | (simp; done) | (simp; omega))]; exact c30
      have c41 : (w3.setCell ⟨g, k, none⟩ (.int .i64 (y + 1))).cell? ⟨wr.heap.size, 1, none⟩ = some (.int .i64 (y + 1)) := by
        rw [World.cell?_setCell_other _ _ _ _ (by first | (simp; done) | (simp; omega))]; exact c31
      have B4 := (thenB hbel b3).setCell (p := ⟨g, k, none⟩) HG.out (.int .i64 (y + 1))
      have X4 : (w3.setCell ⟨g, k, none⟩ (.int .i64 (y + 1))).cell? ⟨bk, off + i, none⟩ = some (.int .i64 x) := by
        rw [World.cell?_setCell_other _ _ _ _ (by have := HG.out; first | (simp; done) | (simp; omega)), b3.cell (by exact hbx)]; exact hcx
      have hs4 : (w3.setCell ⟨g, k, none⟩ (.int .i64 (y + 1))).heap.size = w3.heap.size := by simp
      have HQ : Hid (OwnAt g (w3.setCell ⟨g, k, none⟩ (.int .i64 (y + 1))) (some ⟨g, 0, none⟩) (V.set k (y + 1)) ∧ OwnAt g (w3.setCell ⟨g, k, none⟩ (.int .i64 (y + 1))) (some ⟨g + 1, 0, none⟩) W ∧ Below w.heap.size w (w3.setCell ⟨g, k, none⟩ (.int .i64 (y + 1))) ∧ (w3.setCell ⟨g, k, none⟩ (.int .i64 (y + 1))).cell? ⟨bk, off + i, none⟩ = some (.int .i64 x) ∧ bk < (w3.setCell ⟨g, k, none⟩ (.int .i64 (y + 1))).heap.size) :=
        ⟨V4, W4, B4, X4, by rw [hs4]; omega⟩
      have HP : Hid (Ve.Has (V.set k (y + 1)) (k : Int) (y + 1) ∧ (V.set k (y + 1)).length = 3) := ⟨Ve.has_now V k (y + 1) hkV (by omega), by rw [List.length_set]; exact HS.out.1.1⟩
      clear V4 W4 B4 X4 hs4 cV3 V3 W3 b3 h3 h3s c30 c31 cV0 hcx
      go_wp2_with fail
      refine (has_n HP.out.2 HQ.out.1.row (yes_iff HP.out.1)).mono ?_
      rintro e w5 ⟨rfl, h5⟩
      have V5 := HQ.out.1.later h5
      have W5 := HQ.out.2.1.later h5
      have B5 := thenB HQ.out.2.2.1 h5
      have X5 : w5.cell? ⟨bk, off + i, none⟩ = some (.int .i64 x) := (h5.cell (by exact HQ.out.2.2.2.2)).trans HQ.out.2.2.2.1
      clear HQ HP h5 c40 c41 cV30 cV31
      obtain ⟨u, hu⟩ : ∃ u, W.getD k 0 = u := ⟨_, rfl⟩
      have hu0 : 0 ≤ u := by have := HS.out.1.2.2 k hk3; omega
      have hu1 : u ≤ 30 := by have := HS.out.1.2.2 k hk3; omega
      have cW := W5.cellAt hkW
      rw [hu] at cW
      have cW0 := cW.1
      have cW1 := cW.2
      have S1 : Ve.St (V.set k (y + 1)) W (i + 1) := by have := Ve.st_one HS.out.1 hk3; rw [HY.out] at this; exact this
      have S2 : Ve.St (V.set k (y + 1)) (W.set k (u + 1)) (i + 1) := by have := Ve.st_both HS.out.1 hk3; rw [HY.out, hu] at this; exact this
      clear cW hu HS HY
      generalize V.set k (y + 1) = V' at *
      have W6 := W5.set hkW (u + 1)
      have V6 := own_other (g := g + 1) V5 (by omega) k (.int .i64 (u + 1))
      have B6 := B5.setCell (p := ⟨g + 1, k, none⟩) (Nat.le_succ_of_le HG.out) (.int .i64 (u + 1))
      generalize W.set k (u + 1) = W' at *
      have HT : Hid (Ve.St V' W' (i + 1) ∧ OwnAt g (w5.setCell ⟨g + 1, k, none⟩ (.int .i64 (u + 1))) (some ⟨g, 0, none⟩) V' ∧ OwnAt g (w5.setCell ⟨g + 1, k, none⟩ (.int .i64 (u + 1))) (some ⟨g + 1, 0, none⟩) W' ∧ Below w.heap.size w (w5.setCell ⟨g + 1, k, none⟩ (.int .i64 (u + 1)))) := ⟨S2, V6, W6, B6⟩
      have HF : Hid (Ve.St V' W (i + 1) ∧ OwnAt g w5 (some ⟨g, 0, none⟩) V' ∧ OwnAt g w5 (some ⟨g + 1, 0, none⟩) W ∧ Below w.heap.size w w5) := ⟨S1, V5, W5, B5⟩
      clear S1 S2 W6 V6 B6 V5 W5 B5 hkV hkW hgw hbx hbel ez ek
      cases ht : (bits BinOp.and IntKind.i64 (x / 1024) 1 == 1)
      case' true =>
        go_wp2_with fail
        have HU := HT
        clear HT HF ht
      case' false =>
        go_wp2_with fail
        have HU := HF
        clear HT HF ht
        generalize W = W' at *
      all_goals
        (clear cW0 cW1 X5
         obtain ⟨n1, hn1⟩ : ∃ n1, n1 = gk := ⟨_, rfl⟩
         go_loopg [8, 9] 3 (fun n tv av wq => ∃ c : Nat, c + n = 3 ∧ av = .int .i64 c ∧ tv = .bool true ∧ OwnAt g wq (some ⟨g, 0, none⟩) V' ∧ OwnAt g wq (some ⟨g + 1, 0, none⟩) W' ∧ Below w.heap.size w wq)
         case atStart => exact ⟨0, by omega, rfl, rfl, HU.out.2.1, HU.out.2.2.1, HU.out.2.2.2⟩
         case round =>
           obtain ⟨c, hcn, rfl, rfl, oV, oW, bq⟩ := hrel
           have HO : Hid (OwnAt g wr (some ⟨g, 0, none⟩) V' ∧ OwnAt g wr (some ⟨g + 1, 0, none⟩) W' ∧ Below w.heap.size w wr) := ⟨oV, oW, bq⟩
           by_cases hc3 : c < 3
           · have hcW : c < W'.length := by rw [HU.out.1.2.1]; exact hc3
             have hcq := HU.out.1.2.2 c hc3
             obtain ⟨t, ht⟩ : ∃ t : Nat, W'.getD c 0 = (t : Int) := ⟨(W'.getD c 0).toNat, by omega⟩
             have ht1 : t ≤ 31 := by omega
             have HQ : Hid (W'.getD c 0 = (t : Int)) := ht
             clear oV oW bq hcq ht
             obtain ⟨n2, hn2⟩ : ∃ n2, n2 = gk := ⟨_, rfl⟩
             have hdc : decide ((c : Int) < 3) = true := by simp; omega
             go_wp2_with fail
             go_loopg [8, 10] t (fun n tv bv wq => ∃ b : Nat, 1 ≤ b ∧ b + n = t + 1 ∧ bv = .int .i64 b ∧ tv = .bool true ∧ OwnAt g wq (some ⟨g, 0, none⟩) V' ∧ OwnAt g wq (some ⟨g + 1, 0, none⟩) W' ∧ Below w.heap.size w wq)
             case atStart => exact ⟨1, by omega, by omega, rfl, rfl, HO.out.1, HO.out.2.1, HO.out.2.2⟩
             case round =>
               clear HO
               obtain ⟨b, hb1, hbn, rfl, rfl, oV, oW, bq⟩ := hrel
               have cq : wr.cell? ⟨g + 1, c, none⟩ = some (.int .i64 (t : Int)) := by rw [(oW.cellAt hcW).1, HQ.out]
               have HO : Hid (OwnAt g wr (some ⟨g, 0, none⟩) V' ∧ OwnAt g wr (some ⟨g + 1, 0, none⟩) W' ∧ Below w.heap.size w wr) := ⟨oV, oW, bq⟩
               clear oV oW bq
               by_cases hbt : b ≤ t
               · go_wp2_with fail
                 refine (has_n HU.out.1.1 HO.out.1.row (yes_iff (Ve.has_all HU.out.1 hc3 (by omega) (by rw [HQ.out]; omega)))).mono ?_
                 rintro e w7 ⟨rfl, h7⟩
                 go_wp2
                 go_roundg (gk - 1)
                 case measure => omega
                 case rel => exact ⟨b + 1, by omega, by omega, by go_num, rfl, HO.out.1.later h7, HO.out.2.1.later h7, thenB HO.out.2.2 h7⟩
               · have hbt2 : t < b := by omega
                 go_wp2
                 go_roundg (n2 - 1)
                 case measure => omega
                 case rel => exact ⟨c + 1, by omega, by go_num, rfl, HO.out.1, HO.out.2.1, HO.out.2.2⟩
           · clear oV oW bq
             have hc33 : 3 ≤ c := by omega
             obtain ⟨r, hr⟩ := Ve.bool_of (V' = W')
             have HR : Hid ((r = true ↔ V' = W') ∧ (r = true ↔ Ve.Under V' W')) := ⟨hr, hr.trans (Ve.st_same HU.out.1 (by omega)).symm⟩
             clear hr
             have hrr : (r != r) = false := by simp
             go_wp2_with fail
             refine (under_n HU.out.1.2.1 HU.out.1.1 HO.out.2.1.row HO.out.1.row (yes_iff (Ve.st_under HU.out.1 (by omega)))).mono ?_
             rintro e w8 ⟨rfl, h8⟩
             go_wp2_with fail
             refine (under_n HU.out.1.1 HU.out.1.2.1 (HO.out.1.row.later h8) (HO.out.2.1.row.later h8) HR.out.2).mono ?_
             rintro e w9 ⟨rfl, h9⟩
             have h89 := thenB h8 h9
             go_wp2_with fail
             refine (same_n HU.out.1.1 HU.out.1.2.1 (HO.out.1.row.later h89) (HO.out.2.1.row.later h89) (by unfold maxLen; omega) HR.out.1).mono ?_
             rintro e w10 ⟨rfl, h10⟩
             have hall := thenB h89 h10
             go_wp2
             go_roundg (n1 - 1)
             case measure => omega
             case rel => exact ⟨i + 1, V', W', by omega, by omega, by go_num, HU.out.1, HO.out.1.later hall, HO.out.2.1.later hall, thenB HO.out.2.2 hall⟩)
    · have HM : Hid (Ve.Made min V W W 0) := Ve.st_min HS.out.1 (by omega)
      by_cases hd : i < a.length
      · have hd1 : decide ((i : Int) < (a.length : Int)) = true := by simp; omega
        have hd2 : decide ((i : Int) < 30) = false := by simp; omega
        go_wp2_with fail
        refine (min_n HS.out.1.1 HS.out.1.2.1 HS.out.2.1.row HS.out.2.2.row HM.out).mono ?_
        rintro e w3 ⟨ro, rc, rfl, hro, h3⟩
        have hl3 : W.length = 3 := HS.out.1.2.1
        go_wp2_with (first
          | (go_at_call 14; refine (num_any _ _).mono ?_; rintro e w0 ⟨rfl, rfl⟩)
          | (go_at_call 13; refine (same_n HS.out.1.2.1 HS.out.1.2.1 hro.row (HS.out.2.2.row.later h3) (by unfold maxLen; omega) (yes_iff rfl)).mono ?_; rintro e w4 ⟨rfl, h4⟩))
        go_ret
        exact ⟨rfl, thenB (thenB hbel h3) h4⟩
      · have hd1 : decide ((i : Int) < (a.length : Int)) = false := by simp; omega
        go_wp2_with fail
        refine (min_n HS.out.1.1 HS.out.1.2.1 HS.out.2.1.row HS.out.2.2.row HM.out).mono ?_
        rintro e w3 ⟨ro, rc, rfl, hro, h3⟩
        have hl3 : W.length = 3 := HS.out.1.2.1
        go_wp2_with (first
          | (go_at_call 14; refine (num_any _ _).mono ?_; rintro e w0 ⟨rfl, rfl⟩)
          | (go_at_call 13; refine (same_n HS.out.1.2.1 HS.out.1.2.1 hro.row (HS.out.2.2.row.later h3) (by unfold maxLen; omega) (yes_iff rfl)).mono ?_; rintro e w4 ⟨rfl, h4⟩))
        go_ret
        exact ⟨rfl, thenB (thenB hbel h3) h4⟩

theorem walk {H : Type} {enc : TypeId × Value → H} {base : Nat} {d0 : DataW H} {p0 : List MemPlace} (v0 : Value) (w : World)
    (o0 : Value.okWide Try.prog w .any base 22 v0) (h0 : DataW.Trod enc Try.prog w 0 (fun _ => true) true 22 v0 d0 p0) :
    Calls Try.prog 7 #[v0] w fun e w' => e = .returned (.bool true) ∧ Below w.heap.size w w' := by
  obtain ⟨a, ao, ca, rfl, la, ha, _⟩ := isInts_of o0 h0
  exact core ao ca a w ha la

end Go.Proofs.Ytbindfgjdocpoaa.VecSteps
