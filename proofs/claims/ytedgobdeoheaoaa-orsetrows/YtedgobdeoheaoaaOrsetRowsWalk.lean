/-
  The walk of the law OrsetRows: puts in any row leave the same set, a drop leaves what the others put.
-/
import Derived.Test.YtedgobdeoheaoaaRows9
import Derived.Test.YtedgobdeoheaoaaAwake9
import Derived.Test.YtedgobdeoheaoaaMasks
import Derived.OwnWalk
namespace Go.Proofs.Ytedgobdeoheaoaa.OrsetRows
open Go.RowKit Go.Shelf
set_option linter.unusedVariables false
set_option linter.unusedSimpArgs false

set_option maxHeartbeats 4000000 in
set_option maxRecDepth 100000 in
theorem core (ao : Option Addr) (ca : Nat) (l : List Int) (drops : Int) (w : World) (hr : FRow w ao (flatI l)) (hl : l.length * 8 ≤ 140737488351232) :
    Calls Try.prog 4 #[.slice ao l.length ca, .int .i64 drops] w fun e w' => e = .returned (.bool true) ∧ Below w.heap.size w w' := by
  have HP : Hid (FRow w ao (flatI l)) := hr
  obtain ⟨p, hp⟩ : ∃ p : Nat → Nat, Hid (∀ j, p j < 8 ∧ bits .and .i64 (l.getD j 0) 7 = (p j : Int)) := ⟨fun j => (bits .and .i64 (l.getD j 0) 7).toNat, fun j => by
    obtain ⟨z, h1, h2⟩ : ∃ z : Nat, z < 8 ∧ bits .and .i64 (l.getD j 0) 7 = (z : Int) := and_mask (l.getD j 0) 3 (by omega)
    show (bits .and .i64 (l.getD j 0) 7).toNat < 8 ∧ bits .and .i64 (l.getD j 0) 7 = ((bits .and .i64 (l.getD j 0) 7).toNat : Int)
    rw [h2]
    exact ⟨h1, rfl⟩⟩
  obtain ⟨b, hbt⟩ : ∃ b : Nat → Bool, Hid (∀ j, bits .and .i64 (drops / 2 ^ j) 1 = if b j = true then 1 else 0) := ⟨fun j => decide (bits .and .i64 (drops / 2 ^ j) 1 = 1), fun j => by
    obtain ⟨z, h1, h2⟩ : ∃ z : Nat, z < 2 ∧ bits .and .i64 (drops / 2 ^ j) 1 = (z : Int) := and_mask (drops / 2 ^ j) 1 (by omega)
    show bits .and .i64 (drops / 2 ^ j) 1 = if decide (bits .and .i64 (drops / 2 ^ j) 1 = 1) = true then 1 else 0
    rw [h2]
    have : z = 0 ∨ z = 1 := by omega
    rcases this with rfl | rfl <;> decide⟩
  obtain ⟨h, hh⟩ : ∃ h, w.heap.size = h := ⟨_, rfl⟩
  have HH : Hid (w.heap.size = h) := hh
  rw [hh]
  obtain ⟨K, hK⟩ : ∃ K : Nat, min (l.length : Int) 16 = (K : Int) := ⟨min l.length 16, by omega⟩
  have hK1 : K ≤ l.length := by omega
  have hK2 : K ≤ 16 := by omega
  go_enter Try.func4, Try.ntmps4
  go_wp2_with fail
  refine (awake9_any _).mono ?_
  rintro e w1 ⟨rfl, b1⟩
  have H1 : Hid (Regs h w w1 []) := ⟨hh ▸ b1, by have := b1.size; omega⟩
  clear b1 hr hh
  obtain ⟨g, hg⟩ : ∃ g, w1.heap.size = g := ⟨_, rfl⟩
  have HG : Hid (h ≤ g) := by have := H1.out.2; show h ≤ g; omega
  have I0 : ∀ t, Hid (Inv9 h w g b p K 0 pl0 pl0 none 0 (((w1.alloc (.cells (slL 0 pl0).toArray 30)).alloc (.cells (slL 0 pl0).toArray 30)).alloc (.cells #[.bool false, .bool false, .bool false, .bool false, .bool false, .bool false, .bool false, .bool false] t))) := fun t =>
    ⟨Regs.push (Regs.push (Regs.push H1.out hg (slL 0 pl0) _) (by simp [hg]) (slL 0 pl0) _) (by simp [hg]) (lb (stays b p 0)) t, FOwn.nil _ _ _, FOwn.nil _ _ _, own_nil _ _ _ _⟩
  clear H1
  go_wp2_with fail
  clear hg
  go_loopg [8, 10] K (fun m gv iv wr => ∃ (i : Nat) (q1 q2 : Pl) (ro : Option Addr) (rc : Nat), i + m = K ∧ gv = .slice ro (goneL b i).length rc ∧ iv = .int .i64 i ∧ Hid (Inv9 h w g b p K i q1 q2 ro rc wr))
  case atStart => exact ⟨0, pl0, pl0, none, 0, by omega, rfl, rfl, (I0 _).out⟩
  case round =>
    clear I0
    obtain ⟨i, q1, q2, ro, rc, hiK, rfl, rfl, HI⟩ := hrel
    by_cases hi : i < K
    · have hi1 : i < l.length := by omega
      have hi2 : i < 16 := by omega
      obtain ⟨j, hj⟩ : ∃ j, K - 1 - i = j := ⟨_, rfl⟩
      have hj1 : j < l.length := by omega
      have hj2 : j < 16 := by omega
      have ej : (K : Int) - 1 - (i : Int) = (j : Int) := by omega
      obtain ⟨bk, off, rfl, hbk, hc⟩ := HP.out (by rw [flatI_length]; omega)
      obtain ⟨x1, hx1⟩ : ∃ x, l.getD i 0 = x := ⟨_, rfl⟩
      obtain ⟨x2, hx2⟩ : ∃ x, l.getD j 0 = x := ⟨_, rfl⟩
      obtain ⟨m1, hm1⟩ : ∃ m, p i = m := ⟨_, rfl⟩
      obtain ⟨m2, hm2⟩ : ∃ m, p j = m := ⟨_, rfl⟩
      have CX : Hid (∀ W, Below h w W → W.cell? ⟨bk, off + i, none⟩ = some (.int .i64 x1) ∧ W.cell? ⟨bk, off + j, none⟩ = some (.int .i64 x2)) := fun W hW => by
        have hbh : bk < h := by have := HH.out; omega
        exact ⟨(hW.cell (p := ⟨bk, off + i, none⟩) (by exact hbh)).trans (by rw [← hx1]; exact hc _ _ (flatI_get hi1)), (hW.cell (p := ⟨bk, off + j, none⟩) (by exact hbh)).trans (by rw [← hx2]; exact hc _ _ (flatI_get hj1))⟩
      have P1 := hp.out i
      have P2 := hp.out j
      rw [hx1, hm1] at P1
      rw [hx2, hm2] at P2
      obtain ⟨d1, d2, hd12⟩ : ∃ d1 d2, dotN i = (d1, d2) := ⟨_, _, rfl⟩
      obtain ⟨e1, e2, he12⟩ : ∃ d1 d2, dotN j = (d1, d2) := ⟨_, _, rfl⟩
      have h8 : ∀ j, p j < 8 := fun j => (hp.out j).1
      have HD : Hid (dotN i = (d1, d2) ∧ i < 64 ∧ Small (accL (vf p) (fun j => j) i) ∧ putB (sc (accL (vf p) (fun j => j) i)) (d1, d2) ⟨(valN m1).toArray⟩ = true ∧ vf p i = ⟨(valN m1).toArray⟩ ∧ m1 < 8 ∧ bits .and .i64 x1 7 = (m1 : Int) ∧ p i = m1) := ⟨hd12, by omega, ac_small h8 _ (by omega), ac_ok h8 (fun a h1 h2 => by omega) (by omega) (by show vf p i = _; rw [← hm1]) hd12, by rw [← hm1], P1.1, P1.2, hm1⟩
      have HE : Hid (dotN j = (e1, e2) ∧ j < 64 ∧ Small (accL (vf p) (dn K) i) ∧ putB (sc (accL (vf p) (dn K) i)) (e1, e2) ⟨(valN m2).toArray⟩ = true ∧ vf p (dn K i) = ⟨(valN m2).toArray⟩ ∧ m2 < 8 ∧ bits .and .i64 x2 7 = (m2 : Int) ∧ dotN (dn K i) = (e1, e2)) :=
        have hdn : dn K i = j := hj
        ⟨he12, by omega, ac_small h8 _ (by omega), ac_ok h8 (fun a h1 h2 => by unfold dn at h2; omega) (by rw [hdn]; omega) (by rw [hdn, ← hm2]) (by rw [hdn]; exact he12), by rw [hdn, ← hm2], P2.1, P2.2, by rw [hdn]; exact he12⟩
      obtain ⟨B, hB⟩ : ∃ B, wr.heap.size = B := ⟨_, rfl⟩
      have hbB : bk < B := by have := HH.out; have := HI.out.rg.base.2; omega
      have HS : Hid (Src9 wr B g i q1 (accL (vf p) (fun j => j) i) bk (off + i) (.int .i64 x1)) := ⟨hB, HI.out.rg.2.2.1, HI.out.e1.row, hbB, (CX.out wr HI.out.rg.base.1).1⟩
      have HB : Hid (wr.heap.size = B ∧ g + 2 < B ∧ bk < B) := ⟨hB, by rw [← hB]; exact HI.out.rg.1.1, hbB⟩
      have hz0 : B ≤ wr.heap.size := by omega
      have hzd : B ≤ wr.drew.heap.size := hz0
      clear hc hx1 hx2 hm1 hm2 P1 P2 hd12 he12 h8 hB hbB hbk hj
      go_wp2_with fail
      go_cut [11, 12] from 28 to 88 (fun r e wx => ∃ (kc : Nat) (qn : Pl), r = .pointer (some ⟨kc, 0, none⟩) ∧ e = .int .i64 0 ∧ Hid (End9 wr B (i + 1) (accL (vf p) (fun j => j) (i + 1)) kc qn wx))
      case first =>
        go_region_held3 (Held9 wr B g i q1 bk (off + i) (.int .i64 x1)) (first | (with_reducible apply held9_later HS.out hb2; assumption) | with_reducible apply held9_put HS.out T6 (by assumption) | (with_reducible apply held9_swap HS.out (by omega) (by assumption)) | (with_reducible exact held9_drew HS.out) | (with_reducible exact held9_first HS.out _) | (with_reducible apply held9_alloc HS.out _ (by assumption)))
          (first
            | (go_at_call 26; with_reducible refine (dot_as i HD.out.1 HD.out.2.1 _).mono ?_; rintro e v3 ⟨rfl, hb2⟩; have hz := hb2.size; first | (with_reducible have T6 := nine9_newd (B := B) (by omega) hb2; obtain ⟨y0, y1, y2, y3, y4, y5, y6, y7, y8, y9⟩ := nine9_ten T6; obtain ⟨z0, z1, z2, z3, z4, z5, z6, z7, z8, z9⟩ := nine9_tenf T6) | (with_reducible have T6 := nine9_new (B := B) (by omega) hb2; obtain ⟨y0, y1, y2, y3, y4, y5, y6, y7, y8, y9⟩ := nine9_ten T6; obtain ⟨z0, z1, z2, z3, z4, z5, z6, z7, z8, z9⟩ := nine9_tenf T6) | (with_reducible replace T6 := nine9_later T6 hb2; obtain ⟨y0, y1, y2, y3, y4, y5, y6, y7, y8, y9⟩ := nine9_ten T6; obtain ⟨z0, z1, z2, z3, z4, z5, z6, z7, z8, z9⟩ := nine9_tenf T6) | skip)
            | (go_at_call 27; with_reducible refine (value_any x1 m1 HD.out.2.2.2.2.2.1 HD.out.2.2.2.2.2.2.1 _).mono ?_; rintro e v3 ⟨rfl, hb2⟩; have hz := hb2.size; first | (with_reducible have T6 := nine9_newd (B := B) (by omega) hb2; obtain ⟨y0, y1, y2, y3, y4, y5, y6, y7, y8, y9⟩ := nine9_ten T6; obtain ⟨z0, z1, z2, z3, z4, z5, z6, z7, z8, z9⟩ := nine9_tenf T6) | (with_reducible have T6 := nine9_new (B := B) (by omega) hb2; obtain ⟨y0, y1, y2, y3, y4, y5, y6, y7, y8, y9⟩ := nine9_ten T6; obtain ⟨z0, z1, z2, z3, z4, z5, z6, z7, z8, z9⟩ := nine9_tenf T6) | (with_reducible replace T6 := nine9_later T6 hb2; obtain ⟨y0, y1, y2, y3, y4, y5, y6, y7, y8, y9⟩ := nine9_ten T6; obtain ⟨z0, z1, z2, z3, z4, z5, z6, z7, z8, z9⟩ := nine9_tenf T6) | skip)
            | (go_at_call 10; with_reducible refine (put_at9 (f := vf p) (g := fun j => j) HS.out (by assumption) HD.out.1 HD.out.2.2.2.2.1 HD.out.2.2.1 HD.out.2.2.2.1).mono ?_; rintro e v3 ⟨qn, rfl, O3, hC3, hb2⟩; have hz := hb2.size; first | (with_reducible have T6 := nine9_newd (B := B) (by omega) hb2; obtain ⟨y0, y1, y2, y3, y4, y5, y6, y7, y8, y9⟩ := nine9_ten T6; obtain ⟨z0, z1, z2, z3, z4, z5, z6, z7, z8, z9⟩ := nine9_tenf T6) | (with_reducible have T6 := nine9_new (B := B) (by omega) hb2; obtain ⟨y0, y1, y2, y3, y4, y5, y6, y7, y8, y9⟩ := nine9_ten T6; obtain ⟨z0, z1, z2, z3, z4, z5, z6, z7, z8, z9⟩ := nine9_tenf T6) | (with_reducible replace T6 := nine9_later T6 hb2; obtain ⟨y0, y1, y2, y3, y4, y5, y6, y7, y8, y9⟩ := nine9_ten T6; obtain ⟨z0, z1, z2, z3, z4, z5, z6, z7, z8, z9⟩ := nine9_tenf T6) | skip))
        all_goals
          (go_wp2_with fail
           go_meet
           case rel =>
             (first
               | (have E7 := end9_put (w1 := wr) (l' := accL (vf p) (fun j => j) (i + 1)) T6 O3 (by assumption); exact ⟨_, qn, rfl, rfl, E7⟩)
               | (have E7 := end9_new (w1 := wr) (W := v3) (B := B) (l' := accL (vf p) (fun j => j) (i + 1)) 30 hC3 (by omega) O3 (by assumption); exact ⟨_, qn, rfl, rfl, E7⟩)))
      case rest =>
        obtain ⟨w3, rfl⟩ : ∃ z, z = wc := ⟨_, rfl⟩
        obtain ⟨kc, q1n, rfl, rfl, HE1⟩ := hcut
        obtain ⟨B3, hB3⟩ : ∃ B3, w3.heap.size = B3 := ⟨_, rfl⟩
        have hBB : B ≤ B3 := by have := HE1.out.2.2.2.size; have := HB.out.1; omega
        have HS1 := HS
        clear HS
        have HS : Hid (Src9 w3 B3 (g + 1) i q2 (accL (vf p) (dn K) i) bk (off + j) (.int .i64 x2)) := ⟨hB3, HI.out.rg.2.1.under (by have := HB.out.2.1; omega) HE1.out.2.2.2, HI.out.e2.row.later (HB.out.1.symm ▸ HE1.out.2.2.2), by have := HB.out.2.2; omega, (CX.out w3 (HI.out.rg.base.1.trans (HE1.out.2.2.2.mono (by have := HI.out.rg.base.2; have := HB.out.1; omega)))).2⟩
        have HB3 : Hid (w3.heap.size = B3 ∧ B ≤ B3) := ⟨hB3, hBB⟩
        clear hz0 hzd hBB HS1
        have hz0 : B3 ≤ w3.heap.size := by omega
        have hzd : B3 ≤ w3.drew.heap.size := hz0
        clear hB3
        have ew1 : IntKind.i64.wrap ((K : Int) - 1) = (K : Int) - 1 := by
          have e : (K : Int) - 1 = ((K - 1 : Nat) : Int) := by omega
          rw [e]
          exact wrap_nat _ (by omega)
        have ew2 : IntKind.i64.wrap (j : Int) = (j : Int) := wrap_nat _ (by omega)
        have ew3 : (j : Int) < (l.length : Int) := by omega
        go_wp2_with fail
        go_cut [13, 14] from 28 to 88 (fun r e wx => ∃ (kd : Nat) (qn : Pl), r = .pointer (some ⟨kd, 0, none⟩) ∧ e = .int .i64 0 ∧ Hid (End9 w3 B3 (i + 1) (accL (vf p) (dn K) (i + 1)) kd qn wx))
        case first =>
          go_region_held3 (Held9 w3 B3 (g + 1) i q2 bk (off + j) (.int .i64 x2)) (first | (with_reducible apply held9_later HS.out hb2; assumption) | with_reducible apply held9_put HS.out T6 (by assumption) | (with_reducible apply held9_swap HS.out (by omega) (by assumption)) | (with_reducible exact held9_drew HS.out) | (with_reducible exact held9_first HS.out _) | (with_reducible apply held9_alloc HS.out _ (by assumption)))
            (first
              | (go_at_call 26; with_reducible refine (dot_as j HE.out.1 HE.out.2.1 _).mono ?_; rintro e v3 ⟨rfl, hb2⟩; have hz := hb2.size; first | (with_reducible have T6 := nine9_newd (B := B3) (by omega) hb2; obtain ⟨y0, y1, y2, y3, y4, y5, y6, y7, y8, y9⟩ := nine9_ten T6; obtain ⟨z0, z1, z2, z3, z4, z5, z6, z7, z8, z9⟩ := nine9_tenf T6) | (with_reducible have T6 := nine9_new (B := B3) (by omega) hb2; obtain ⟨y0, y1, y2, y3, y4, y5, y6, y7, y8, y9⟩ := nine9_ten T6; obtain ⟨z0, z1, z2, z3, z4, z5, z6, z7, z8, z9⟩ := nine9_tenf T6) | (with_reducible replace T6 := nine9_later T6 hb2; obtain ⟨y0, y1, y2, y3, y4, y5, y6, y7, y8, y9⟩ := nine9_ten T6; obtain ⟨z0, z1, z2, z3, z4, z5, z6, z7, z8, z9⟩ := nine9_tenf T6) | skip)
              | (go_at_call 27; with_reducible refine (value_any x2 m2 HE.out.2.2.2.2.2.1 HE.out.2.2.2.2.2.2.1 _).mono ?_; rintro e v3 ⟨rfl, hb2⟩; have hz := hb2.size; first | (with_reducible have T6 := nine9_newd (B := B3) (by omega) hb2; obtain ⟨y0, y1, y2, y3, y4, y5, y6, y7, y8, y9⟩ := nine9_ten T6; obtain ⟨z0, z1, z2, z3, z4, z5, z6, z7, z8, z9⟩ := nine9_tenf T6) | (with_reducible have T6 := nine9_new (B := B3) (by omega) hb2; obtain ⟨y0, y1, y2, y3, y4, y5, y6, y7, y8, y9⟩ := nine9_ten T6; obtain ⟨z0, z1, z2, z3, z4, z5, z6, z7, z8, z9⟩ := nine9_tenf T6) | (with_reducible replace T6 := nine9_later T6 hb2; obtain ⟨y0, y1, y2, y3, y4, y5, y6, y7, y8, y9⟩ := nine9_ten T6; obtain ⟨z0, z1, z2, z3, z4, z5, z6, z7, z8, z9⟩ := nine9_tenf T6) | skip)
              | (go_at_call 10; with_reducible refine (put_at9 (f := vf p) (g := dn K) HS.out (by assumption) HE.out.2.2.2.2.2.2.2 HE.out.2.2.2.2.1 HE.out.2.2.1 HE.out.2.2.2.1).mono ?_; rintro e v3 ⟨qn, rfl, O3, hC3, hb2⟩; have hz := hb2.size; first | (with_reducible have T6 := nine9_newd (B := B3) (by omega) hb2; obtain ⟨y0, y1, y2, y3, y4, y5, y6, y7, y8, y9⟩ := nine9_ten T6; obtain ⟨z0, z1, z2, z3, z4, z5, z6, z7, z8, z9⟩ := nine9_tenf T6) | (with_reducible have T6 := nine9_new (B := B3) (by omega) hb2; obtain ⟨y0, y1, y2, y3, y4, y5, y6, y7, y8, y9⟩ := nine9_ten T6; obtain ⟨z0, z1, z2, z3, z4, z5, z6, z7, z8, z9⟩ := nine9_tenf T6) | (with_reducible replace T6 := nine9_later T6 hb2; obtain ⟨y0, y1, y2, y3, y4, y5, y6, y7, y8, y9⟩ := nine9_ten T6; obtain ⟨z0, z1, z2, z3, z4, z5, z6, z7, z8, z9⟩ := nine9_tenf T6) | skip))
          all_goals
            (go_wp2_with fail
             go_meet
             case rel =>
               (first
                 | (have E7 := end9_put (w1 := w3) (l' := accL (vf p) (dn K) (i + 1)) T6 O3 (by assumption); exact ⟨_, qn, rfl, rfl, E7⟩)
                 | (have E7 := end9_new (w1 := w3) (W := v3) (B := B3) (l' := accL (vf p) (dn K) (i + 1)) 30 hC3 (by omega) O3 (by assumption); exact ⟨_, qn, rfl, rfl, E7⟩)))
        case rest =>
          obtain ⟨w4, rfl⟩ : ∃ z, z = wc := ⟨_, rfl⟩
          obtain ⟨kd, q2n, rfl, rfl, HE2⟩ := hcut
          have hb34 : Below w3.heap.size w3 w4 := HB3.out.1.symm ▸ HE2.out.2.2.2
          have hbw : Below B wr w4 := HE1.out.2.2.2.trans (HE2.out.2.2.2.mono HB3.out.2)
          have hhB : h ≤ B := by have := HI.out.rg.base.2; have := HB.out.1; omega
          have M4 : Hid (Mid1 h w g b p K i kd q1n q2 q2n ro rc B (put10 w4 g (.int .i64 2) (.bool false) (.int .i64 0) (.int .i64 0) (.string ⟨#[]⟩) (.int .i64 0) (.int .i64 0) (.slice q1n.eo (i + 1) q1n.ec) (.slice q1n.lo 0 q1n.lc) (.slice q1n.so 0 q1n.sc))) := mid1_of HI.out HB.out.1 hbw (HE1.out.2.2.1.later hb34) (HE2.out.2.2.1.mono HB3.out.2) (by have := HE2.out.1; have := HB3.out.2; omega) HE2.out.2.1 HG.out
          have HW : Hid (Has w4 kc (slL (i + 1) q1n) ∧ Has w4 g (slL i q1)) := by
            have e1 := HB.out.2.1
            exact ⟨HE1.out.2.1.later hb34, HI.out.rg.2.2.1.under (by omega) hbw⟩
          have HD2 : Hid (dotN i = (d1, d2) ∧ i < 64 ∧ m1 < 8 ∧ bits .and .i64 x1 7 = (m1 : Int) ∧ p i = m1) := ⟨HD.out.1, HD.out.2.1, HD.out.2.2.2.2.2.1, HD.out.2.2.2.2.2.2.1, HD.out.2.2.2.2.2.2.2⟩
          have hb := hbt.out i
          clear HE1 HE2 HI HS HD HE HB HB3 hz0 hzd hb34 hbw hhB ew1 ew2 ew3
          obtain ⟨t0, t1, t2, t3, t4, t5, t6, t7, t8, t9⟩ := HW.out.1.ten
          obtain ⟨y0, y1, y2, y3, y4, y5, y6, y7, y8, y9⟩ := HW.out.2.ten
          obtain ⟨z0, z1, z2, z3, z4, z5, z6, z7, z8, z9⟩ := HW.out.2.tenf
          go_upto_region 15 with (go_at_call 19; refine (num_any _ _).mono ?_; rintro e w0 ⟨rfl, hw0⟩; have hw1 := hw0.symm; clear hw0; subst hw1)
          clear HW t0 t1 t2 t3 t4 t5 t6 t7 t8 t9 y0 y1 y2 y3 y4 y5 y6 y7 y8 y9 z0 z1 z2 z3 z4 z5 z6 z7 z8 z9
          have M5 := M4.out
          clear M4
          dsimp only [put10] at M5
          generalize hw5 : World.setCell _ (⟨g, 9, none⟩ : Addr) _ = w5 at M5 ⊢
          clear hw5
          replace M5 := (show Hid _ from M5)
          obtain ⟨t0, t1, t2, t3, t4, t5, t6, t7, t8, t9⟩ := M5.out.rg.1.ten
          obtain ⟨y0, y1, y2, y3, y4, y5, y6, y7, y8, y9⟩ := M5.out.rg.2.2.1.ten
          obtain ⟨z0, z1, z2, z3, z4, z5, z6, z7, z8, z9⟩ := M5.out.rg.2.2.1.tenf
          go_upto_region 16 with fail
          have M6 := mid2_of M5.out HG.out
          clear M5 t0 t1 t2 t3 t4 t5 t6 t7 t8 t9 y0 y1 y2 y3 y4 y5 y6 y7 y8 y9 z0 z1 z2 z3 z4 z5 z6 z7 z8 z9
          dsimp only [put10] at M6
          generalize hw6 : World.setCell _ (⟨g + 1, 9, none⟩ : Addr) _ = w6 at M6 ⊢
          clear hw6
          replace M6 := (show Hid _ from M6)
          have C6 := (CX.out _ M6.out.rg.base.1).1
          cases hbi : b i with
          | true =>
            rw [hbi] at hb
            simp only [if_true] at hb
            have HBI : Hid (b i = true) := hbi
            clear hbi
            go_wp2_with fail
            refine (dot_as i HD2.out.1 HD2.out.2.1 _).mono ?_
            rintro e w7 ⟨rfl, b7⟩
            have M7 : Hid (Mid2 h w g b p K i q1n q2n ro rc B w7) := M6.out.later b7
            obtain ⟨n7, hn7⟩ : ∃ n, w7.heap.size = n := ⟨_, rfl⟩
            have R7 : FRow (w7.alloc (.cells #[.int .i64 d1, .int .i64 d2] 32)) (some ⟨n7, 0, none⟩) [.int .i64 d1, .int .i64 d2] := frow_newAt hn7 [.int .i64 d1, .int .i64 d2] _
            have hle := goneL_le b i
            have hgs : g + 3 ≤ w7.heap.size := M7.out.rg.1.1
            clear M6 b7 C6 hb
            go_wp2_with (at_builtin; refine wpList_ontoG rfl _ _ 33 rfl Try.underlying33 Try.infoDot rfl (by decide) (by decide) (B := g + 3) rfl rfl (own_later M7.out.ow ((Below.refl _ _).alloc (Nat.le_refl _) _)) R7 rfl (fun u hu => oneD (l := [(d1, d2)]) (by simpa [flatD] using hu)) (by omega) (by simp; omega) ?_; intro bo cb w8 o8 n8 b8 gr8 _; have I8 := mid2_gone (M7.out.later ((Below.refl _ _).alloc (Nat.le_refl _) _)) HBI.out HD2.out.1 o8 gr8 HG.out; have I8 := (show Hid _ from I8); clear o8 n8 b8 gr8)
            go_roundg (gk - 1)
            case measure => omega
            case rel => exact ⟨i + 1, q1n, q2n, bo, cb, by omega, by rw [I8.out.1], by go_num, I8.out.2⟩
          | false =>
            rw [hbi] at hb
            simp only [Bool.false_eq_true, if_false] at hb
            have he1 := HD2.out.2.2.2.1
            have hm8 := HD2.out.2.2.1
            have c7 : w6.cell? ⟨g + 1 + 1, m1, none⟩ = some (.bool (stays b p i m1)) := M6.out.rg.1.at m1 (lb_at _ hm8)
            have f7 : w6.frozen? ⟨g + 1 + 1, m1, none⟩ = false := M6.out.rg.1.free m1 (lb_at _ hm8)
            have I7 := mid2_left M6.out hbi HD2.out.2.2.2.2 hm8 HG.out
            have I8 := (show Hid _ from I7)
            clear I7 hbi M6
            go_wp2_with fail
            go_roundg (gk - 1)
            case measure => omega
            case rel => exact ⟨i + 1, q1n, q2n, ro, rc, by omega, by rw [I8.out.1], by go_num, I8.out.2⟩
    · obtain rfl : i = K := by omega
      have h8 : ∀ j, p j < 8 := fun j => (hp.out j).1
      obtain ⟨s, hs⟩ : ∃ s, stays b p i = s := ⟨_, rfl⟩
      obtain ⟨r, hrl⟩ : ∃ r, (dropL (accL (vf p) (fun j => j) i) (goneL b i)).length = r := ⟨_, rfl⟩
      obtain ⟨m, hml⟩ : ∃ m, (wantL valN s 8).length = m := ⟨_, rfl⟩
      have HC : Hid ((accL (vf p) (fun j => j) i).length = i ∧ Small (accL (vf p) (fun j => j) i) ∧ (dropL (accL (vf p) (fun j => j) i) (goneL b i)).length = r ∧ setV (valsL (dropL (accL (vf p) (fun j => j) i) (goneL b i))) = wantL valN s 8 ∧ (wantL valN s 8).length = m) := ⟨accL_len _ _ _, ac_small h8 _ (by omega), hrl, hs ▸ rows_vals valN b p i 8 valN_up (fun j _ => h8 j), hml⟩
      have hcount := drop_count (vf p) b i
      rw [hrl] at hcount
      have er : (i : Int) - ((goneL b i).length : Int) = (r : Int) := by omega
      have hgl : (goneL b i).length ≤ 64 := by omega
      have hm20 : m ≤ 8 := by rw [← hml]; exact wantL_le _ _ _
      have e2 : FRow wr q2.eo (flatE (accL (vf p) (fun j => j) i)) := by
        have := HI.out.e2.row
        rw [show accL (vf p) (dn i) i = accL (vf p) (fun j => j) i from accL_rev (vf p) i] at this
        exact this
      have E2 : Hid (FRow wr q2.eo (flatE (accL (vf p) (fun j => j) i))) := e2
      clear hcount hrl hml e2 hi
      obtain ⟨t0, t1, t2, t3, t4, t5, t6, t7, t8, t9⟩ := HI.out.rg.2.2.1.ten
      go_wp2_with fail
      refine (drops_yes (l := accL (vf p) (fun j => j) i) (q := q1) (ds := goneL b i) ro rc _ (dropL (accL (vf p) (fun j => j) i) (goneL b i)) i (goneL b i).length r HC.out.1.symm rfl HI.out.e1.row HC.out.2.1 (own_row HI.out.ow).row hgl rfl HC.out.2.2.1.symm).mono ?_
      rintro e w3 ⟨qx, rfl, o3, b3⟩
      obtain ⟨kx, hkx⟩ : ∃ k, w3.heap.size = k := ⟨_, rfl⟩
      have hal : Below w3.heap.size w3 (w3.alloc (.cells (slL r qx).toArray 30)) := (Below.refl _ _).alloc (Nat.le_refl _) _
      have H3 : Hid (Regs h w (w3.alloc (.cells (slL r qx).toArray 30)) [(kx, slL r qx), (g + 2, lb s), (g + 1, slL i q2), (g, slL i q1)] ∧ FRow (w3.alloc (.cells (slL r qx).toArray 30)) qx.eo (flatE (dropL (accL (vf p) (fun j => j) i) (goneL b i))) ∧ FRow (w3.alloc (.cells (slL r qx).toArray 30)) q1.eo (flatE (accL (vf p) (fun j => j) i)) ∧ FRow (w3.alloc (.cells (slL r qx).toArray 30)) q2.eo (flatE (accL (vf p) (fun j => j) i))) :=
        ⟨Regs.push (hs ▸ HI.out.rg.later b3) hkx _ _, o3.row.later hal, (HI.out.e1.row.later b3).later hal, (E2.out.later b3).later hal⟩
      clear HI E2 o3 b3 hal t0 t1 t2 t3 t4 t5 t6 t7 t8 t9 hs
      go_wp2_with fail
      refine (valss_yes (l := dropL (accL (vf p) (fun j => j) i) (goneL b i)) (q := qx) _ (wantL valN s 8) r m HC.out.2.2.1.symm H3.out.2.1 (small_drop HC.out.2.1 _) HC.out.2.2.2.1 HC.out.2.2.2.2.symm).mono ?_
      rintro e w4 ⟨vo, cv, rfl, o4, b4⟩
      obtain ⟨B, hB⟩ : ∃ B, w4.heap.size = B := ⟨_, rfl⟩
      have H4 : Hid (Regs h w w4 [(kx, slL r qx), (g + 2, lb s), (g + 1, slL i q2), (g, slL i q1)] ∧ FRow w4 q1.eo (flatE (accL (vf p) (fun j => j) i)) ∧ FRow w4 q2.eo (flatE (accL (vf p) (fun j => j) i)) ∧ FRow w4 vo (flatS (wantL valN s 8)) ∧ w4.heap.size = B) := ⟨H3.out.1.later b4, H3.out.2.2.1.later b4, H3.out.2.2.2.later b4, o4.row, hB⟩
      have W0 : Hid (Below B w4 w4 ∧ B ≤ w4.heap.size) := ⟨Below.refl _ _, Nat.le_of_eq hB.symm⟩
      clear H3 o4 b4 hkx hB
      go_wp2_with fail
      go_loopg [19, 20] 8 (fun mm sv iv wr => ∃ (j : Nat) (wo : Option Addr) (wk : Nat), j + mm = 8 ∧ sv = .slice wo (wantL valN s j).length wk ∧ iv = .int .i64 j ∧ Hid (Below B w4 wr ∧ B ≤ wr.heap.size ∧ wr.ownsRow B 9 1 (.slice wo (wantL valN s j).length wk) (wantL valN s j).length (flatS (wantL valN s j))))
      case atStart => exact ⟨0, none, 0, by omega, rfl, rfl, W0.out.1, W0.out.2, own_nil _ _ _ _⟩
      case round =>
        clear W0
        obtain ⟨j, wo, wk, hj8, rfl, rfl, HQ⟩ := hrel
        have hbw : Below w4.heap.size w4 wr := H4.out.2.2.2.2.symm ▸ HQ.out.1
        by_cases hj : j < 8
        · have c7 : wr.cell? ⟨g + 1 + 1, j, none⟩ = some (.bool (s j)) := (H4.out.1.2.1.later hbw).at j (lb_at _ hj)
          have a7 := and7 j hj
          have hwl := wantL_le valN s j
          cases hsj : s j with
          | true =>
            rw [hsj] at c7
            have HSJ : Hid (s j = true) := hsj
            clear hsj hbw
            go_wp2_with fail
            refine (value_any (j : Int) j hj a7 _).mono ?_
            rintro e w5 ⟨rfl, b5⟩
            have H5 : Hid (Below B w4 w5 ∧ B ≤ w5.heap.size ∧ w5.ownsRow B 9 1 (.slice wo (wantL valN s j).length wk) (wantL valN s j).length (flatS (wantL valN s j))) := ⟨HQ.out.1.trans (b5.mono HQ.out.2.1), Nat.le_trans HQ.out.2.1 b5.size, own_later HQ.out.2.2 b5⟩
            obtain ⟨n5, hn5⟩ : ∃ n, w5.heap.size = n := ⟨_, rfl⟩
            have R5 : FRow (w5.alloc (.cells #[.string ⟨(valN j).toArray⟩] 9)) (some ⟨n5, 0, none⟩) [.string ⟨(valN j).toArray⟩] := frow_newAt hn5 [.string ⟨(valN j).toArray⟩] _
            have hB5 : B ≤ w5.heap.size := H5.out.2.1
            clear HQ b5 c7
            go_wp2_with (at_builtin; refine wpList_onto rfl _ _ 43 rfl Try.underlying43 Try.infoString rfl (by decide) (by decide) (B := B) rfl rfl (own_later H5.out.2.2 ((Below.refl _ _).alloc (Nat.le_refl _) _)) R5 rfl (fun u hu => by obtain rfl := List.mem_singleton.1 hu; rfl) (by omega) (by simp; omega) ?_; intro bo cb w6 o6 n6 b6; have H6 : Hid (Below B w4 w6 ∧ B ≤ w6.heap.size ∧ w6.ownsRow B 9 1 (.slice bo ((wantL valN s j).length + 1) cb) ((wantL valN s j).length + 1) (flatS (wantL valN s j) ++ [.string ⟨(valN j).toArray⟩])) := ⟨H5.out.1.trans (((Below.refl _ _).alloc hB5 _).trans b6), Nat.le_trans (by simp; omega) b6.size, o6⟩; clear o6 n6 b6)
            go_roundg (gk - 1)
            case measure => omega
            case rel =>
              refine ⟨j + 1, bo, cb, by omega, ?_, by go_num, ?_⟩
              · rw [wantL_step_yes HSJ.out]; simp
              · have e : wantL valN s (j + 1) = wantL valN s j ++ [valN j] := wantL_step_yes HSJ.out
                refine ⟨H6.out.1, H6.out.2.1, ?_⟩
                rw [e, List.length_append, flatS_append]
                exact H6.out.2.2
          | false =>
            rw [hsj] at c7
            have HSJ : Hid (s j = false) := hsj
            clear hsj hbw
            go_wp2_with fail
            go_roundg (gk - 1)
            case measure => omega
            case rel => exact ⟨j + 1, wo, wk, by omega, by rw [wantL_step_no HSJ.out], by go_num, by rw [wantL_step_no HSJ.out]; exact HQ.out⟩
        · obtain rfl : j = 8 := by omega
          obtain ⟨t0, t1, t2, t3, t4, t5, t6, t7, t8, t9⟩ := (H4.out.1.2.2.2.1.later hbw).ten
          obtain ⟨y0, y1, y2, y3, y4, y5, y6, y7, y8, y9⟩ := (H4.out.1.2.2.1.later hbw).ten
          have K4 : Hid (Regs h w wr [(kx, slL r qx)] ∧ FRow wr q1.eo (flatE (accL (vf p) (fun j => j) i)) ∧ FRow wr q2.eo (flatE (accL (vf p) (fun j => j) i)) ∧ FRow wr vo (flatS (wantL valN s 8)) ∧ FRow wr wo (flatS (wantL valN s 8))) := by
            have K := H4.out.1.later hbw
            exact ⟨⟨K.1, K.2.2.2.2⟩, H4.out.2.1.later hbw, H4.out.2.2.1.later hbw, H4.out.2.2.2.1.later hbw, (own_row HQ.out.2.2).row⟩
          clear HQ hbw H4
          go_wp2_with fail
          refine (same_sets q1 q2 _ HC.out.1.symm K4.out.2.1 K4.out.2.2.1 HC.out.2.1).mono ?_
          rintro e w7 ⟨rfl, b7⟩
          have K7 : Hid (Regs h w w7 [(kx, slL r qx)] ∧ FRow w7 vo (flatS (wantL valN s 8)) ∧ FRow w7 wo (flatS (wantL valN s 8))) := ⟨K4.out.1.later b7, K4.out.2.2.2.1.later b7, K4.out.2.2.2.2.later b7⟩
          clear K4 b7 t0 t1 t2 t3 t4 t5 t6 t7 t8 t9 y0 y1 y2 y3 y4 y5 y6 y7 y8 y9
          have C7 := tsame_any vo wo cv wk (wantL valN s 8) w7 K7.out.2.1 K7.out.2.2 (by rw [HC.out.2.2.2.2]; unfold maxLen; omega)
          rw [HC.out.2.2.2.2] at C7 ⊢
          go_wp2_with (go_at_call 19; refine (num_any _ _).mono ?_; rintro e w0 ⟨rfl, hw0⟩; have hw1 := hw0.symm; clear hw0; subst hw1)
          refine C7.mono ?_
          rintro e w8 ⟨rfl, b8⟩
          have K8 : Hid (Regs h w w8 [(kx, slL r qx)]) := K7.out.1.later b8
          clear K7 b8 C7
          have x7 := K8.out.1.at 7 rfl
          go_wp2_with fail
          go_ret
          exact ⟨rfl, K8.out.2.1⟩

set_option maxRecDepth 100000 in
theorem walk {H : Type} {enc : TypeId × Value → H} {base : Nat} {d0 : DataW H} {p0 : List MemPlace} (v0 : Value) (drops : Int) (w : World)
    (o0 : Value.okWide Try.prog w .any base 28 v0) (h0 : DataW.Trod enc Try.prog w 0 (fun _ => true) true 28 v0 d0 p0) (z0 : ∀ n, n ∈ DataW.weights Try.prog 28 d0 → n ≤ reachBytes) (_ : (Lit.int .i64 drops).wf = true) :
    Calls Try.prog 4 #[v0, .int .i64 drops] w fun e w' => e = .returned (.bool true) ∧ Below w.heap.size w w' := by
  obtain ⟨l, ao, ca, rfl, hr, hl⟩ := open_ints o0 h0 z0
  exact core ao ca l drops w hr hl

end Go.Proofs.Ytedgobdeoheaoaa.OrsetRows
