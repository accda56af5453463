/-
  The walk of the law MatrixLeast: the least row is under each row, and is some row's at each place.
-/
import Derived.Test.YtdaakacjgkafcaaAwake5
import Derived.Test.YtdaakacjgkafcaaMasks
import Derived.Test.YtdaakacjgkafcaaTolds
import Derived.Deep.RegionHeld3
namespace Go.Proofs.Ytdaakacjgkafcaa.MatrixLeast
open Go.RowKit
set_option linter.unusedVariables false

theorem mask255 (x : Int) : ∃ z : Nat, z < 256 ∧ bits .and .i64 x 255 = (z : Int) := and_mask x 8 (by omega)

/-- Numbers that one vector holds. -/
def Small (l : List Int) (k : Nat) : Prop := l.length = k ∧ ∀ x, x < k → 0 ≤ l.getD x 0 ∧ l.getD x 0 ≤ 255

theorem small_zeros (k : Nat) : Small (List.replicate k 0) k := by
  refine ⟨by simp, fun x hx => ?_⟩
  have : (List.replicate k (0 : Int)).getD x 0 = 0 := by simp [List.getD, hx]
  omega

theorem small_set {l : List Int} {k j z : Nat} (h : Small l k) (hz : z < 256) : Small (l.set j (z : Int)) k := by
  refine ⟨by simpa using h.1, fun x hx => ?_⟩
  by_cases e : j = x
  · subst e
    have : (l.set j (z : Int)).getD j 0 = z := by simp [List.getD, h.1, hx]
    omega
  · have : (l.set j (z : Int)).getD x 0 = l.getD x 0 := by simp [List.getD, List.getElem?_set_ne e]
    rw [this]
    exact h.2 x hx

theorem small_may {l : List Int} {k : Nat} (h : Small l k) (h1 : 1 ≤ k) (h2 : k ≤ 16) : Ve.May l k := by
  refine ⟨by omega, by omega, by rw [h.1], fun i hi => ?_⟩
  have := h.2 i (by rw [← h.1]; exact hi)
  omega

theorem row_at {B : Nat} {w : World} {ao : Option Addr} {l : List Int} (h : OwnAt B w ao l) (h0 : 0 < l.length) : ∃ b off, ao = some ⟨b, off, none⟩ ∧ b < w.heap.size ∧ ∀ i, i < l.length → w.cell? ⟨b, off + i, none⟩ = some (.int .i64 (l.getD i 0)) := by
  obtain ⟨b, off, h1, _, h2, h3⟩ := h h0
  exact ⟨b, off, h1, h2, fun i hi => (h3 i hi).1⟩

set_option maxHeartbeats 4000000 in
set_option maxRecDepth 100000 in
theorem core (nodes : Int) (n : Nat) (ao : Option Addr) (cap : Nat) (w : World) (hn : n ≤ maxLen) (hts : 0 < n → ∃ b off, ao = some ⟨b, off, none⟩ ∧ b < w.heap.size ∧ ∀ i, i < n → ∃ N V, ToldAt w b off i N V) :
    Calls Try.prog 4 #[.int .i64 nodes, .slice ao n cap] w fun e w' => e = .returned (.bool true) ∧ Below w.heap.size w w' := by
  have HT : Hid (0 < n → ∃ b off, ao = some ⟨b, off, none⟩ ∧ b < w.heap.size ∧ ∀ i, i < n → ∃ N V, ToldAt w b off i N V) := hts
  unfold maxLen at hn
  obtain ⟨c, hc⟩ : ∃ c, c = min n 20 := ⟨_, rfl⟩
  have hc1 : c ≤ 20 := by omega
  have HC : Hid (c = min n 20) := hc
  clear hts hc
  obtain ⟨q, hq, eq⟩ : ∃ q : Nat, q < 5 ∧ wrap64 ((IntKind.u64.wrap nodes).tmod 5) = (q : Int) := mod_any nodes 5 (by omega) (by omega)
  obtain ⟨k, hk⟩ : ∃ k : Nat, 1 + (q : Int) = (k : Int) := ⟨1 + q, by omega⟩
  have hk1 : 1 ≤ k := by omega
  have hk2 : k ≤ 5 := by omega
  have RM := fun w => run_made k w (by omega)
  go_enter Try.func4, Try.ntmps4
  go_wp2_with fail
  refine (awake5_any _).mono ?_
  rintro e w1 ⟨rfl, h1⟩
  go_wp2_with fail
  refine (new_in w (n := k) rfl hk1 (by omega) h1).mono ?_
  rintro e w2 ⟨P, rfl, m2⟩
  clear h1 hk hq eq
  have H2 : Hid (MatIn w w2 P (Mx.zeros k)) := m2
  clear m2
  go_wp2_with (go_at_call 8; refine (num_any _ _).mono ?_; rintro e w0 ⟨rfl, rfl⟩)
  go_loopg [8] c (fun m iv wr => ∃ i : Nat, i + m = c ∧ iv = .int .i64 i ∧ ∃ rows, Mx.Good rows ∧ rows.length = k ∧ MatIn w wr P rows)
  case atStart => exact ⟨0, by omega, rfl, Mx.zeros k, Mx.good_zeros hk1 (by omega), Mx.zeros_length k, H2.out⟩
  case round =>
    clear H2
    obtain ⟨i, hin, rfl, rows, hg, hrl, T⟩ := hrel
    have HG : Hid (Mx.Good rows ∧ rows.length = k ∧ MatIn w wr P rows) := ⟨hg, hrl, T⟩
    clear hg hrl T
    by_cases hi : i < c
    · have hi1 : i < n := by have := HC.out; omega
      have hi2 : i < 20 := by omega
      obtain ⟨tb, off, rfl, htb, htold⟩ := HT.out (by omega)
      obtain ⟨N, V, y1, y2, vo, vc, y3, y4⟩ := htold i hi1
      have TS : Hid (∀ W, Below w.heap.size w W → (W.cell? ⟨tb, off + i * 2, none⟩ = some (.int .i64 N) ∧ W.cell? ⟨tb, off + i * 2 + 1, none⟩ = some (.slice vo V.length vc)) ∧ RowAt W vo V) := fun W hW => ⟨⟨(hW.cell (by exact htb)).trans y1, (hW.cell (by exact htb)).trans y3⟩, y4.later hW⟩
      obtain ⟨p, hp, ep⟩ := mod_any N k (by omega) (by omega)
      have hV : V.length ≤ 9223372036854775807 := by omega
      obtain ⟨u, hu⟩ : ∃ u, u = min k V.length := ⟨_, rfl⟩
      have HU : Hid (u = min k V.length) := hu
      have hu1 : u ≤ k := by omega
      clear htold y1 y2 y3 y4 hu
      obtain ⟨g, hgw⟩ : ∃ g, g = wr.heap.size := ⟨_, rfl⟩
      have HO : Hid (OwnAt wr.heap.size (madeW k wr) (some ⟨g, 0, none⟩) (List.replicate k 0) ∧ g = wr.heap.size) := ⟨by rw [hgw]; exact own_made k wr, hgw⟩
      obtain ⟨wo, hwo⟩ : ∃ wo, wo = wr := ⟨_, rfl⟩
      have HW : Hid (wo = wr) := hwo
      obtain ⟨n1, hn1⟩ : ∃ n1, n1 = gk := ⟨_, rfl⟩
      clear hwo
      have HP : Hid (MatIn w wo P rows) := by rw [HW.out]; exact HG.out.2.2
      have hgw' := hgw.symm
      clear hgw
      go_wp2
      go_loopg [10] u (fun m iv wx => ∃ j : Nat, j + m = u ∧ iv = .int .i64 j ∧ Below wo.heap.size wo wx ∧ ∃ cur, Small cur k ∧ OwnAt wo.heap.size wx (some ⟨g, 0, none⟩) cur)
      case atStart =>
        refine ⟨0, by omega, rfl, by rw [HW.out]; exact below_made k wr, _, small_zeros k, by rw [HW.out]; exact HO.out.1⟩
      case round =>
        clear hgw'
        obtain ⟨j, hjn, rfl, hbx, cur, hcur, hox⟩ := hrel
        have BW : Below w.heap.size w wr := thenB HP.out.below hbx
        obtain ⟨⟨t1, t3⟩, t4⟩ := TS.out wr BW
        have HCU : Hid (Small cur k ∧ OwnAt wo.heap.size wr (some ⟨g, 0, none⟩) cur ∧ RowAt wr vo V ∧ Below wo.heap.size wo wr) := ⟨hcur, hox, t4, hbx⟩
        clear hcur hox t4 BW hbx
        by_cases hj : j < u
        · have hj1 : j < k := by omega
          have hj2 : j < V.length := by have := HU.out; omega
          obtain ⟨vb, voff, rfl, hvb, hvc⟩ := HCU.out.2.2.1 (by omega)
          have c1 := hvc j hj2
          obtain ⟨x, hx⟩ : ∃ x, x = V.getD j 0 := ⟨_, rfl⟩
          rw [← hx] at c1
          obtain ⟨z, hz, ez⟩ := mask255 x
          have c2 := HCU.out.2.1.cellAt (j := j) (by rw [HCU.out.1.1]; exact hj1)
          obtain ⟨y, hy⟩ : ∃ y, y = cur.getD j 0 := ⟨_, rfl⟩
          rw [← hy] at c2
          obtain ⟨c2, c3⟩ := c2
          clear hx hy hvc hvb
          go_wp2
          go_roundg (gk - 1)
          case measure => omega
          case rel =>
            refine ⟨j + 1, by omega, by go_num, ?_, cur.set j (z : Int), small_set HCU.out.1 hz, HCU.out.2.1.set (by rw [HCU.out.1.1]; exact hj1) _⟩
            exact HCU.out.2.2.2.setCell (p := ⟨g, j, none⟩) (by rw [HW.out]; exact Nat.le_of_eq HO.out.2.symm) _
        · have hL : Mx.Learnt rows (p : Int) cur (Mx.told rows p cur) 0 := Or.inl ⟨⟨by omega, by rw [HG.out.2.1]; omega⟩, by rw [HG.out.2.1]; exact small_may HCU.out.1 hk1 (by omega), by rw [Int.toNat_natCast], rfl⟩
          have HLN : Hid (Mx.Learnt rows (p : Int) cur (Mx.told rows p cur) 0 ∧ MatIn w wr P rows) := ⟨hL, HP.out.later HCU.out.2.2.2⟩
          clear hL
          by_cases hjk : j < k
          · have d1 : decide ((j : Int) < (k : Int)) = true := by simp; omega
            have d3 : V.length ≤ j := by have := HU.out; omega
            have d2 : decide ((j : Int) < (V.length : Int)) = false := by simp; omega
            go_wp2_with fail
            refine (learn_in HLN.out.2 HG.out.1 HCU.out.2.1.row HCU.out.1.1 HLN.out.1).mono ?_
            rintro e w5 ⟨rfl, m5⟩
            go_wp2_with (go_at_call 8; refine (num_any _ _).mono ?_; rintro e w0 ⟨rfl, rfl⟩)
            go_roundg (n1 - 1)
            case measure => omega
            case rel => exact ⟨i + 1, by omega, by go_num, _, (HG.out.1.learnt HLN.out.1).1, (HG.out.1.learnt HLN.out.1).2.trans HG.out.2.1, m5⟩
          · have d1 : decide ((j : Int) < (k : Int)) = false := by simp; omega
            go_wp2_with fail
            refine (learn_in HLN.out.2 HG.out.1 HCU.out.2.1.row HCU.out.1.1 HLN.out.1).mono ?_
            rintro e w5 ⟨rfl, m5⟩
            go_wp2_with (go_at_call 8; refine (num_any _ _).mono ?_; rintro e w0 ⟨rfl, rfl⟩)
            go_roundg (n1 - 1)
            case measure => omega
            case rel => exact ⟨i + 1, by omega, by go_num, _, (HG.out.1.learnt HLN.out.1).1, (HG.out.1.learnt HLN.out.1).2.trans HG.out.2.1, m5⟩
    · have C3 := least_in HG.out.2.2 HG.out.1 rfl
      rw [Mx.least_length HG.out.1, HG.out.2.1] at C3
      have dn : ((k : Int) != (k : Int)) = false := by simp
      clear RM
      by_cases hi1 : i < n
      case' pos =>
        have hi2 : ¬ i < 20 := by have := HC.out; omega
        have hd1 : decide ((i : Int) < (n : Int)) = true := by simp; omega
        have hd2 : decide ((i : Int) < 20) = false := by simp; omega
      case' neg =>
        have hd1 : decide ((i : Int) < (n : Int)) = false := by simp; omega
      all_goals
        (go_wp2_with fail
         refine C3.mono ?_
         rintro e w4 ⟨so, sc, rfl, o4, h4⟩
         obtain ⟨sb, soff, rfl, hsb, hsc⟩ := row_at o4 (by rw [Mx.least_length HG.out.1, HG.out.2.1]; exact hk1)
         have H4 : Hid (MatIn w w4 P rows ∧ (∀ x, x < (Mx.least rows).length → w4.cell? ⟨sb, soff + x, none⟩ = some (.int .i64 ((Mx.least rows).getD x 0))) ∧ sb < w4.heap.size) := ⟨HG.out.2.2.later h4, hsc, hsb⟩
         clear C3 o4 h4 hsc hsb
         go_wp2
         go_loopg [13] k (fun m iv wy => ∃ j : Nat, j + m = k ∧ iv = .int .i64 j ∧ Below w4.heap.size w4 wy)
         case atStart => exact ⟨0, by omega, rfl, Below.refl _ _⟩
         case round =>
           obtain ⟨j, hjn, rfl, hbj⟩ := hrel
           by_cases hj : j < k
           · have hgr := HG.out.2.1
             obtain ⟨y, hy⟩ : ∃ y, y = (Mx.least rows).getD j 0 := ⟨_, rfl⟩
             have HS : Hid (wr.cell? ⟨sb, soff + j, none⟩ = some (.int .i64 y) ∧ sb < wr.heap.size ∧ MatIn w wr P rows) := ⟨by rw [hbj.cell (by exact H4.out.2.2), H4.out.2.1 j (by rw [Mx.least_length HG.out.1, hgr]; exact hj), hy], Nat.lt_of_lt_of_le H4.out.2.2 hbj.size, H4.out.1.later hbj⟩
             have HY : Hid (y = (Mx.least rows).getD j 0) := hy
             have HBJ : Hid (Below w4.heap.size w4 wr) := hbj
             obtain ⟨wj, hwj⟩ : ∃ wj, wj = wr := ⟨_, rfl⟩
             have HWJ : Hid (wj = wr) := hwj
             obtain ⟨n2, hn2⟩ : ∃ n2, n2 = gk := ⟨_, rfl⟩
             have HPJ : Hid (MatIn w wj P rows ∧ wj.cell? ⟨sb, soff + j, none⟩ = some (.int .i64 y) ∧ sb < wj.heap.size) := by rw [HWJ.out]; exact ⟨HS.out.2.2, HS.out.1, HS.out.2.1⟩
             clear hy hbj hgr hwj
             go_wp2
             go_loopg [15, 14] k (fun m iv sv wz => ∃ x : Nat, x + m = k ∧ iv = .int .i64 x ∧ Below wj.heap.size wj wz ∧ ∃ b : Bool, sv = .bool b ∧ (b = true ↔ ∃ i, i < x ∧ (rows.getD i []).getD j 0 = y))
             case atStart => exact ⟨0, by omega, rfl, by rw [HWJ.out]; exact Below.refl _ _, false, rfl, by simp⟩
             case round =>
               obtain ⟨x, hxn, rfl, hbx, b, rfl, hb⟩ := hrel
               have HX : Hid ((b = true ↔ ∃ i, i < x ∧ (rows.getD i []).getD j 0 = y) ∧ Below wj.heap.size wj wr) := ⟨hb, hbx⟩
               clear hb hbx
               by_cases hx : x < k
               · have C5 := row_in (HPJ.out.1.later HX.out.2) HG.out.1 (node := (x : Int)) (Or.inl ⟨⟨by omega, by rw [HG.out.2.1]; omega⟩, rfl, rfl⟩)
                 rw [Int.toNat_natCast, HG.out.1.row (by rw [HG.out.2.1]; exact hx), HG.out.2.1] at C5
                 obtain ⟨v, hv⟩ : ∃ v, v = (rows.getD x []).getD j 0 := ⟨_, rfl⟩
                 have hvy : y ≤ v := by
                   rw [HY.out, hv]
                   exact Mx.least_le HG.out.1 (by rw [HG.out.2.1]; exact hx) (by rw [HG.out.2.1]; exact hj)
                 have HV : Hid (v = (rows.getD x []).getD j 0) := hv
                 have d0 : decide (v < y) = false := by simp; omega
                 clear hv
                 go_wp2_with fail
                 refine C5.mono ?_
                 rintro e w6 ⟨ro, rc, rfl, o6, h6⟩
                 obtain ⟨rb, roff, rfl, hrb, hrc⟩ := row_at o6 (by rw [HG.out.1.row (by rw [HG.out.2.1]; exact hx), HG.out.2.1]; exact hk1)
                 have c1 : w6.cell? ⟨rb, roff + j, none⟩ = some (.int .i64 v) := by
                   rw [hrc j (by rw [HG.out.1.row (by rw [HG.out.2.1]; exact hx), HG.out.2.1]; exact hj), HV.out]
                 have b6 := HX.out.2.trans (h6.mono HX.out.2.size)
                 have c2 : w6.cell? ⟨sb, soff + j, none⟩ = some (.int .i64 y) := by
                   rw [b6.cell (by exact HPJ.out.2.2)]; exact HPJ.out.2.1
                 have H6 : Hid (Below wj.heap.size wj w6) := b6
                 clear C5 o6 h6 hrb hrc b6
                 go_wp2_with fail
                 go_region_held3 (fun W => W.cell? ⟨rb, roff + j, none⟩ = some (.int .i64 v) ∧ W.cell? ⟨sb, soff + j, none⟩ = some (.int .i64 y))
                   (first | assumption | exact ⟨c1, c2⟩)
                   (first | (go_at_call 8; refine (num_any _ _).mono ?_; rintro e wz ⟨rfl, rfl⟩))
                 cases b with
                 | true =>
                   go_wp2_with fail
                   go_region
                   all_goals go_wp2
                   all_goals go_roundg (gk - 1)
                   all_goals first
                     | omega
                     | exact ⟨x + 1, by omega, by go_num, H6.out.drew.drew, true, rfl, by
                         have := HX.out.1
                         simp only [true_iff] at this ⊢
                         obtain ⟨i, h1, h2⟩ := this
                         exact ⟨i, by omega, h2⟩⟩
                 | false =>
                   have hno : ¬ ∃ i, i < x ∧ (rows.getD i []).getD j 0 = y := by
                     have := HX.out.1
                     simpa using this
                   have HNO : Hid (¬ ∃ i, i < x ∧ (rows.getD i []).getD j 0 = y) := hno
                   clear hno
                   by_cases hvv : v = y
                   · have d1 : (v == y) = true := by simpa using hvv
                     have HVV : Hid (v = y) := hvv
                     clear hvv
                     go_wp2_with fail
                     go_region
                     all_goals go_wp2
                     all_goals go_roundg (gk - 1)
                     all_goals first
                       | omega
                       | exact ⟨x + 1, by omega, by go_num, H6.out.drew.drew, true, rfl, by
                           simp only [true_iff]
                           exact ⟨x, by omega, by rw [← HV.out]; exact HVV.out⟩⟩
                   · have d1 : (v == y) = false := by simpa using hvv
                     go_wp2_with fail
                     go_region
                     all_goals go_wp2
                     all_goals go_roundg (gk - 1)
                     all_goals first
                       | omega
                       | exact ⟨x + 1, by omega, by go_num, H6.out.drew.drew, false, rfl, by
                           simp only [Bool.false_eq_true, false_iff]
                           rintro ⟨i, h1, h2⟩
                           by_cases e : i = x
                           · subst e; rw [← HV.out] at h2; exact hvv h2
                           · exact HNO.out ⟨i, by omega, h2⟩⟩
               · have hbt : b = true := by
                   refine HX.out.1.2 ?_
                   obtain ⟨i, h1, h2⟩ := Mx.least_some HG.out.1 (j := j) (by rw [HG.out.2.1]; exact hj)
                   rw [HG.out.2.1] at h1
                   exact ⟨i, by omega, by rw [← h2, HY.out]⟩
                 subst hbt
                 have dx : decide ((x : Int) < (k : Int)) = false := by simp; omega
                 go_wp2
                 go_roundg (n2 - 1)
                 case measure => omega
                 case rel =>
                   have hjj := HX.out.2
                   rw [HWJ.out] at hjj
                   exact ⟨j + 1, by omega, by go_num, thenB HBJ.out hjj⟩
           · have dj : decide ((j : Int) < (k : Int)) = false := by simp; omega
             go_wp2
             go_ret
             exact ⟨rfl, (H4.out.1.later hbj).below⟩)

theorem walk {H : Type} {enc : TypeId × Value → H} {base : Nat} {d1 : DataW H} {p1 : List MemPlace} (nodes : Int) (v1 : Value) (w : World) (h0 : (Lit.int .i64 nodes).wf = true)
    (o1 : Value.okWide Try.prog w .any base 22 v1) (h1 : DataW.Trod enc Try.prog w 0 (fun _ => true) true 22 v1 d1 p1) (z1 : ∀ n, n ∈ DataW.weights Try.prog 22 d1 → n ≤ reachBytes) :
    Calls Try.prog 4 #[.int .i64 nodes, v1] w fun e w' => e = .returned (.bool true) ∧ Below w.heap.size w w' := by
  obtain ⟨n, ao, cap, rfl, hn, hts⟩ := isTolds_of o1 h1 z1
  exact core nodes n ao cap w hn hts

end Go.Proofs.Ytdaakacjgkafcaa.MatrixLeast
