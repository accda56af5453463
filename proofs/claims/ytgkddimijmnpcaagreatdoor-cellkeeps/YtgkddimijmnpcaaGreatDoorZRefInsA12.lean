/-
  the document's Insert: the answer's Seen lies apart.
-/
import Derived.Test.YtgkddimijmnpcaaGreatDoorZRefI10
import Derived.Test.YtgkddimijmnpcaaGreatDoorZInsA12
namespace Go.Proofs.YtgkddimijmnpcaaGreatDoor
open Go.RowKit Go.Shelf
set_option linter.unusedVariables false
set_option linter.unusedSimpArgs false

/-- Behind the copy, once it is stored: the new elements, the copy's other lists. -/
def CpIA (w : World) (h : Nat) (c : Ce) (q : Pl) (l : List L5) (ao : Option Addr) (ca : Nat) (w3 : World) : Prop :=
  Below h w w3 ∧ Has w3 h (ceL c q) ∧ Has w3 (h + 3) (ceL ce0 pl0) ∧ COwnL (h + 4) w3 (cL c l) ⟨q.eo, q.ec, ao, ca, q.so, q.sc⟩
theorem cpI_ofA {w w1 w2 : World} {h : Nat} {c : Ce} {p q : Pl} {e : L5} {d : D2} {l : List L5} {ao : Option Addr} {ca : Nat} (H : Om w h c p e d l ao ca w1) (hB : h + 4 ≤ w1.heap.size) (o2 : COwn w1.heap.size w2 c q) (b2 : Below w1.heap.size w1 w2) :
    CpIA w h c q l ao ca (put10 w2 h (.int .i64 c.kind) (.bool c.set) (.int .i64 c.time) (.int .i64 c.node) (.string c.val) (.int .i64 c.re) (.int .i64 c.im) (.slice q.eo c.ents.length q.ec) (.slice q.lo c.elems.length q.lc) (.slice q.so c.seen.length q.sc)) := by
  have H2 := H.1.later b2
  have O2 := own_later H.2 b2
  refine ⟨below_put10 H2.1 (Nat.le_refl _) _ _ _ _ _ _ _ _ _ _, H2.2.1.put10 _ _ _ _ _ _ _ _ _ _, ?_, ⟨(o2.1.mono hB).put10 (by omega) _ _ _ _ _ _ _ _ _ _, (own_row O2).put10 (by omega) _ _ _ _ _ _ _ _ _ _, (o2.2.2.mono hB).put10 (by omega) _ _ _ _ _ _ _ _ _ _⟩, fun g hg _ hs hl => by
    have hs' : 0 < (flatI c.seen).length := by rw [flatI_len]; have : 0 < c.seen.length := hs; omega
    have h3 := fown_lt o2.2.2 hs' hg
    have h4 := H.2.lt g (by rw [show ao = some ⟨g, 0, none⟩ from hl]; rfl)
    omega⟩
  repeat apply Has.other (hk := by omega)
  exact H2.2.2.2.2
theorem CpIA.set {w w3 : World} {h : Nat} {c : Ce} {q : Pl} {l : List L5} {ao : Option Addr} {ca : Nat} (H : CpIA w h c q l ao ca w3) (u : Value) : Below h w (w3.setCell ⟨h, 8, none⟩ u) ∧ Has (w3.setCell ⟨h, 8, none⟩ u) (h + 3) (ceL ce0 pl0) ∧ COwnL (h + 4) (w3.setCell ⟨h, 8, none⟩ u) (cL c l) ⟨q.eo, q.ec, ao, ca, q.so, q.sc⟩ :=
  ⟨H.1.setCell (p := ⟨h, 8, none⟩) (Nat.le_refl _) _, H.2.2.1.other (by omega) _ _, ⟨H.2.2.2.1.off (by omega) _ _, H.2.2.2.2⟩⟩

set_option maxHeartbeats 8000000 in
set_option maxRecDepth 100000 in
/-- The document's Insert takes it. -/
theorem rins_yesA (c : Ce) (p : Pl) (e : L5) (d : D2) (L : List L5) (w : World) (hr : CRow w c p) (hf : Fit c) (hcap : c.elems.length ≤ p.lc) (hk : c.kind = 3) (hb : okX c.elems e = true) (hi : insL c.elems e d = some L) :
    Calls Tryz.prog 75 #[ceV c p, lv e, dv d] w fun e w' => ∃ q, e = .returned (.tuple #[ceV (cL c L) q, .int .i64 0]) ∧ COwnL w.heap.size w' (cL c L) q ∧ Below w.heap.size w w' := by
  have H0 : Hid (SetI w w.heap.size c p e d ((((w.alloc (.cells (ceL c p).toArray 30)).alloc (.cells (l5 e).toArray 59)).alloc (.cells #[.int .i64 d.1, .int .i64 d.2] 32)).alloc (.cells (ceL ce0 pl0).toArray 30))) := setI_new _ _ _ _ _ _ _ _ _
  have hl := hf.2.1
  obtain ⟨h, hh⟩ : ∃ h, w.heap.size = h := ⟨_, rfl⟩
  rw [hh] at H0 ⊢
  have HR : Hid (CRow w c p ∧ Fit c ∧ w.heap.size = h) := ⟨hr, hf, hh⟩
  clear hr hf
  have hk1 : (c.kind != 3) = false := by simpa using hk
  obtain ⟨en, es, et, ev, eg⟩ := e
  unfold okX at hb
  simp only [Bool.and_eq_true, Bool.not_eq_true', decide_eq_true_eq] at hb
  obtain ⟨hm, ⟨ht1, ht2⟩, hvs, rfl, hx⟩ := hb
  have C := fun W => refMay_any en es 16 W
  rw [hm] at C
  have d1t : decide (et < 1) = false := by simp; omega
  have d2t : decide (16777215 < et) = false := by simp; omega
  have d3t : decide ((256 : Int) < (ev.size : Int)) = false := by simp; omega
  have hge : decide (0 ≤ numD c.elems (en, es)) = false := by
    have : decide (0 ≤ numD c.elems (en, es)) = hasX c.elems (en, es) := numD_ge _ _
    rw [this]; exact hx
  obtain ⟨k0, hk0, hL0⟩ := Option.map_eq_some_iff.1 hi
  obtain ⟨T, hT⟩ : ∃ T, k0 + pastL et en (c.elems.drop k0) = T := ⟨_, rfl⟩
  have HL : Hid (putX c.elems T ⟨en, es, et, ev, false⟩ = L) := by
    have : putX c.elems (k0 + pastL et en (c.elems.drop k0)) ⟨en, es, et, ev, false⟩ = L := hL0
    rw [hT] at this
    exact this
  have HK : Hid (k0 + pastL et en (c.elems.drop k0) = T ∧ k0 ≤ c.elems.length) := ⟨hT, behind_le hk0⟩
  obtain ⟨d1, d2⟩ := d
  by_cases hd0 : d1 = 0 ∧ d2 = 0
  · obtain ⟨rfl, rfl⟩ := hd0
    have hk00 : k0 = 0 := by
      rw [behindL_zero] at hk0
      simpa using hk0.symm
    clear hk hm hx hi hL0 hT hk0
    go_enter Tryz.func75, Tryz.ntmps75
    go_wp2_with fail
    refine (C _).mono ?_
    rintro e w1 ⟨rfl, b1⟩
    have H1 : Hid (SetI w h c p ⟨en, es, et, ev, false⟩ (0, 0) w1) := H0.out.later b1
    clear b1 H0 C
    obtain ⟨r0, r1, r2, r3, r4⟩ := H1.out.2.2.1.five
    obtain ⟨t0, t1, t2, t3, t4, t5, t6, t7, t8, t9⟩ := H1.out.2.1.ten
    have CH := rplace_any c p (en, es) w1 (HR.out.1.later (HR.out.2.2.symm ▸ H1.out.1)) HR.out.2.1
    generalize numD c.elems (en, es) = nd at CH hge
    go_wp2_with fail
    refine CH.mono ?_
    rintro e w2 ⟨rfl, b2⟩
    have H2 : Hid (SetI w h c p ⟨en, es, et, ev, false⟩ (0, 0) w2) := H1.out.later b2
    clear b2 H1 CH r0 r1 r2 r3 r4 t0 t1 t2 t3 t4 t5 t6 t7 t8 t9
    obtain ⟨r0, r1⟩ := H2.out.2.2.2.1.two
    go_upto_region 8 with fail
    clear r0 r1
    obtain ⟨w3, hw3⟩ : ∃ w3, w3 = w2 := ⟨_, rfl⟩
    have H3 : Hid (SetI w h c p ⟨en, es, et, ev, false⟩ (0, 0) w3) := hw3 ▸ H2.out
    rw [← hw3]
    clear H2 hw3 hh
    obtain ⟨n, hn⟩ : ∃ n, w3.heap.size = n := ⟨_, rfl⟩
    have hn4 : h + 4 ≤ n := by have := H3.out.size; omega
    have HJ : Hid (Lj w h n c p ⟨en, es, et, ev, false⟩ (0, 0) (w3.alloc (.cells #[.int .i64 et, .int .i64 en] 23))) := ⟨H3.out.later ((Below.refl _ _).alloc (Nat.le_refl _) _), hn ▸ has_new w3 [.int .i64 et, .int .i64 en] _⟩
    obtain ⟨r0, r1, r2, r3, r4⟩ := H3.out.2.2.1.five
    go_upto_region 9 with fail
    generalize hW : w3.alloc (.cells #[.int .i64 et, .int .i64 en] 23) = w4 at HJ ⊢
    clear hW H3 hn r0 r1 r2 r3 r4
    go_loopg [8] (c.elems.length - k0) (fun m s8 wr => ∃ i : Nat, i + m = c.elems.length ∧ s8 = .int .i64 i ∧ Hid (Lj w h n c p ⟨en, es, et, ev, false⟩ (0, 0) wr) ∧ Hid (i + pastL et en (c.elems.drop i) = T))
    case atStart => exact ⟨k0, by have := HK.out.2; omega, by rw [hk00]; rfl, HJ.out, HK.out.1⟩
    case round =>
      clear HJ
      obtain ⟨i, hin, rfl, HS, HT0⟩ := hrel
      have t8 := HS.out.1.2.1.at 8 rfl
      go_upto_region 9 with fail
      go_cut [86] from 64 to 88 (fun r wx => ∃ b, r = .bool b ∧ Hid (Lj w h n c p ⟨en, es, et, ev, false⟩ (0, 0) wx ∧ (b = true → i < c.elems.length ∧ (i + 1) + pastL et en (c.elems.drop (i + 1)) = T) ∧ (b = false → T = i)))
      case first =>
        by_cases hi : i < c.elems.length
        · have hd : decide ((i : Int) < (c.elems.length : Int)) = true := by simpa using hi
          obtain ⟨bk, off, ea, hb, hc⟩ := (HR.out.1.later (HR.out.2.2.symm ▸ HS.out.1.1)).2.1 (by rw [flatL_len]; omega)
          obtain ⟨⟨xn, xs, xt, xv, xg⟩, hx⟩ : ∃ x, c.elems[i]? = some x := ⟨_, List.getElem?_eq_getElem hi⟩
          obtain ⟨g0, g1, g2, g3, g4⟩ := flatL_at c.elems i hx
          rw [ea] at t8
          have HSr : Hid (SrcJ wr h n bk (off + i * 5) c.elems.length p.lc off ⟨en, es, et, ev, false⟩ ⟨xn, xs, xt, xv, xg⟩) := ⟨HS.out.1.2.1.1, t8, HS.out.2, hb, hc _ _ g2, hc _ _ g0⟩
          have HX : Hid (c.elems[i]? = some ⟨xn, xs, xt, xv, xg⟩) := hx
          clear hc hx g0 g1 g2 g3 g4 hb ea
          have CL := fun W => refLess_any et en xt xn W
          cases hq : lessB et en xt xn with
          | true =>
            have HQ : Hid ((i + 1) + pastL et en (c.elems.drop (i + 1)) = T) := by
              have := HT0.out
              rw [pastL_at HX.out, hq, if_pos rfl] at this
              show (i + 1) + pastL et en (c.elems.drop (i + 1)) = _
              omega
            rw [hq] at CL
            go_region_held3 (HeldJ wr h n bk (off + i * 5) c.elems.length p.lc off ⟨en, es, et, ev, false⟩ ⟨xn, xs, xt, xv, xg⟩) (first | (with_reducible apply heldJ_later HSr.out hb2; assumption) | (with_reducible exact heldJ_drew HSr.out))
              (first | (go_at_call 118; with_reducible refine (CL _).mono ?_; rintro r w3 ⟨rfl, hb2⟩))
            all_goals
              (go_wp2
               go_meet
               case rel => exact ⟨true, rfl, lj_later HS.out (show HeldJ wr h n bk (off + i * 5) c.elems.length p.lc off ⟨en, es, et, ev, false⟩ ⟨xn, xs, xt, xv, xg⟩ _ by assumption).1.out, fun _ => ⟨hi, HQ.out⟩, fun h => by cases h⟩)
          | false =>
            have HQ : Hid (T = i) := by
              have := HT0.out
              rw [pastL_at HX.out, hq, if_neg (by simp)] at this
              show T = _
              omega
            rw [hq] at CL
            go_region_held3 (HeldJ wr h n bk (off + i * 5) c.elems.length p.lc off ⟨en, es, et, ev, false⟩ ⟨xn, xs, xt, xv, xg⟩) (first | (with_reducible apply heldJ_later HSr.out hb2; assumption) | (with_reducible exact heldJ_drew HSr.out))
              (first | (go_at_call 118; with_reducible refine (CL _).mono ?_; rintro r w3 ⟨rfl, hb2⟩))
            all_goals
              (go_wp2
               go_meet
               case rel => exact ⟨false, rfl, lj_later HS.out (show HeldJ wr h n bk (off + i * 5) c.elems.length p.lc off ⟨en, es, et, ev, false⟩ ⟨xn, xs, xt, xv, xg⟩ _ by assumption).1.out, fun h => (by cases h), fun _ => HQ.out⟩)
        · have hd : decide ((i : Int) < (c.elems.length : Int)) = false := by simp; omega
          have HQ : Hid (T = i) := by
            have := HT0.out
            rw [List.drop_eq_nil_of_le (by omega : c.elems.length ≤ i)] at this
            show T = _
            simp only [pastL] at this
            omega
          refine wp_region_held_drew (S := fun W => Hid (Below wr.heap.size wr W) ∧ W.cell? ⟨h, 8, none⟩ = some (.slice p.lo c.elems.length p.lc)) (by kernel_rfl) ⟨(Below.refl _ _).drew, t8⟩ (fun hHeld => ?_)
          refine take_at 0 64 (v := .int .i64 (i : Nat)) rfl (by kernel_rfl) (by kernel_rfl) (by kernel_rfl) (fun _ _ _ h => h) rfl (by rfl) (fun w hSw => ?hy) hHeld ?_
          case hy =>
            try dsimp only at hSw
            go_simp
          simp only [List.set_cons_zero, List.set_cons_succ]
          refine take_at 1 65 (v := .pointer (some ⟨h, 8, none⟩)) rfl (by kernel_rfl) (by kernel_rfl) (by kernel_rfl) (fun _ _ _ h => h) rfl (by rfl) (fun w hSw => ?hy) hHeld ?_
          case hy =>
            try dsimp only at hSw
            go_simp
          simp only [List.set_cons_zero, List.set_cons_succ]
          refine take_at 2 66 (v := .slice p.lo c.elems.length p.lc) rfl (by kernel_rfl) (by kernel_rfl) (by kernel_rfl) (fun _ _ _ h => h) rfl (by rfl) (fun w hSw => ?hy) hHeld ?_
          case hy =>
            try dsimp only at hSw
            go_simp
          simp only [List.set_cons_zero, List.set_cons_succ]
          refine take_at 3 67 (v := .int .i64 (c.elems.length : Nat)) rfl (by kernel_rfl) (by kernel_rfl) (by kernel_rfl) (fun _ _ _ h => h) rfl (by rfl) (fun w hSw => ?hy) hHeld ?_
          case hy =>
            try dsimp only at hSw
            go_simp
          simp only [List.set_cons_zero, List.set_cons_succ]
          refine take_at 4 68 (v := .bool false) rfl (by kernel_rfl) (by kernel_rfl) (by kernel_rfl) (fun _ _ _ h => h) rfl (by rfl) (fun w hSw => ?hy) hHeld ?_
          case hy =>
            try dsimp only at hSw
            go_simp
          simp only [List.set_cons_zero, List.set_cons_succ]
          refine take_at 5 69 (v := .bool false) rfl (by kernel_rfl) (by kernel_rfl) (by kernel_rfl) (fun _ _ _ h => h) rfl (by rfl) (fun w hSw => ?hy) hHeld ?_
          case hy =>
            try dsimp only at hSw
            go_simp
          simp only [List.set_cons_zero, List.set_cons_succ]
          refine skip_at 6 70 rfl (by kernel_rfl) (by kernel_rfl) (by kernel_rfl) (fun _ _ _ h => h) rfl (by rfl) hHeld ?_
          simp only [List.set_cons_zero, List.set_cons_succ]
          refine skip_at 7 71 rfl (by kernel_rfl) (by kernel_rfl) (by kernel_rfl) (fun _ _ _ h => h) rfl (by rfl) hHeld ?_
          simp only [List.set_cons_zero, List.set_cons_succ]
          refine skip_at 8 72 rfl (by kernel_rfl) (by kernel_rfl) (by kernel_rfl) (fun _ _ _ h => h) rfl (by rfl) hHeld ?_
          simp only [List.set_cons_zero, List.set_cons_succ]
          refine skip_at 9 73 rfl (by kernel_rfl) (by kernel_rfl) (by kernel_rfl) (fun _ _ _ h => h) rfl (by rfl) hHeld ?_
          simp only [List.set_cons_zero, List.set_cons_succ]
          refine skip_at 10 74 rfl (by kernel_rfl) (by kernel_rfl) (by kernel_rfl) (fun _ _ _ h => h) rfl (by rfl) hHeld ?_
          simp only [List.set_cons_zero, List.set_cons_succ]
          refine skip_at 11 75 rfl (by kernel_rfl) (by kernel_rfl) (by kernel_rfl) (fun _ _ _ h => h) rfl (by rfl) hHeld ?_
          simp only [List.set_cons_zero, List.set_cons_succ]
          refine skip_at 12 76 rfl (by kernel_rfl) (by kernel_rfl) (by kernel_rfl) (fun _ _ _ h => h) rfl (by rfl) hHeld ?_
          simp only [List.set_cons_zero, List.set_cons_succ]
          refine skip_at 13 77 rfl (by kernel_rfl) (by kernel_rfl) (by kernel_rfl) (fun _ _ _ h => h) rfl (by rfl) hHeld ?_
          simp only [List.set_cons_zero, List.set_cons_succ]
          refine skip_at 14 78 rfl (by kernel_rfl) (by kernel_rfl) (by kernel_rfl) (fun _ _ _ h => h) rfl (by rfl) hHeld ?_
          simp only [List.set_cons_zero, List.set_cons_succ]
          refine skip_at 15 79 rfl (by kernel_rfl) (by kernel_rfl) (by kernel_rfl) (fun _ _ _ h => h) rfl (by rfl) hHeld ?_
          simp only [List.set_cons_zero, List.set_cons_succ]
          refine skip_at 16 80 rfl (by kernel_rfl) (by kernel_rfl) (by kernel_rfl) (fun _ _ _ h => h) rfl (by rfl) hHeld ?_
          simp only [List.set_cons_zero, List.set_cons_succ]
          refine skip_at 17 81 rfl (by kernel_rfl) (by kernel_rfl) (by kernel_rfl) (fun _ _ _ h => h) rfl (by rfl) hHeld ?_
          simp only [List.set_cons_zero, List.set_cons_succ]
          refine skip_at 18 82 rfl (by kernel_rfl) (by kernel_rfl) (by kernel_rfl) (fun _ _ _ h => h) rfl (by rfl) hHeld ?_
          simp only [List.set_cons_zero, List.set_cons_succ]
          refine skip_at 19 83 rfl (by kernel_rfl) (by kernel_rfl) (by kernel_rfl) (fun _ _ _ h => h) rfl (by rfl) hHeld ?_
          simp only [List.set_cons_zero, List.set_cons_succ]
          refine skip_at 20 84 rfl (by kernel_rfl) (by kernel_rfl) (by kernel_rfl) (fun _ _ _ h => h) rfl (by rfl) hHeld ?_
          simp only [List.set_cons_zero, List.set_cons_succ]
          refine wpAnyH_ready (rs := [21]) (by kernel_rfl) (by simp) ?_
          refine AllReadyH.cons rfl (fun K hK => ?_) AllReadyH.nil
          go_simp
          refine hK.out _ _ hHeld (fun hHeld => ?_)
          clear hK K
          try simp only [Act.put, List.setIfInBounds_toArray, List.set_cons_zero, List.set_cons_succ]
          refine wpAnyH_ready (rs := [22]) (by kernel_rfl) (by simp) ?_
          refine AllReadyH.cons rfl (fun K hK => ?_) AllReadyH.nil
          go_simp
          refine hK.out _ _ hHeld (fun hHeld => ?_)
          clear hK K
          try simp only [Act.put, List.setIfInBounds_toArray, List.set_cons_zero, List.set_cons_succ]
          refine wpAnyH_done (by kernel_rfl) ?_ _
          go_wp2
          go_meet
          case rel => exact ⟨false, rfl, lj_later HS.out hHeld.1.out, fun h => (by cases h), fun _ => HQ.out⟩
      case rest =>
        obtain ⟨w5, rfl⟩ : ∃ z, z = wc := ⟨_, rfl⟩
        obtain ⟨b, rfl, HQ0⟩ := hcut
        clear t8 HS HT0
        cases b with
        | true =>
          have hil := (HQ0.out.2.1 rfl).1
          have HN : Hid ((i + 1) + pastL et en (c.elems.drop (i + 1)) = T) := (HQ0.out.2.1 rfl).2
          go_wp2
          go_roundg (gk - 1)
          case measure => omega
          case rel => exact ⟨i + 1, by omega, by go_num, HQ0.out.1, HN.out⟩
        | false =>
          have hTi := HQ0.out.2.2 rfl
          have HQ : Hid (SetI w h c p ⟨en, es, et, ev, false⟩ (0, 0) w5) := HQ0.out.1.1
          have HL2 : putX c.elems i ⟨en, es, et, ev, false⟩ = L := hTi ▸ HL.out
          have hkn : i ≤ c.elems.length := by omega
          clear HQ0 hTi HL HK
          have HB : Hid (putX c.elems i ⟨en, es, et, ev, false⟩ = L) := HL2
          have HE0 : Hid (SetI w h c p ⟨en, es, et, ev, false⟩ (0, 0) w5) := HQ.out
          have t8 := HE0.out.2.1.at 8 rfl
          obtain ⟨n1, hn1⟩ : ∃ n, w5.heap.size = n := ⟨_, rfl⟩
          have hn3 : h + 4 ≤ n1 := by have := HE0.out.size; omega
          have HRow : Hid (FRow w5 p.lo (flatL c.elems)) := (HR.out.1.later (HR.out.2.2.symm ▸ HE0.out.1)).2.1
          have HT : Hid (FRow (w5.alloc (.cells #[] 59)) p.lo (flatL (c.elems.take i))) := frow_takeL (HRow.out.later ((Below.refl _ _).alloc (Nat.le_refl _) _)) i
          have HO : Hid ((w5.alloc (.cells #[] 59)).ownsRow (h + 4) 59 5 (.slice (some ⟨n1, 0, none⟩) 0 0) 0 []) := own_mono (own_empty hn1) hn3
          have HA1 : Hid (Below w5.heap.size w5 (w5.alloc (.cells #[] 59)) ∧ h + 4 ≤ w5.heap.size) := ⟨(Below.refl _ _).alloc (Nat.le_refl _) _, by omega⟩
          have hlt8 : h < n1 := by omega
          go_upto_region 11 with fail
          go_cut [10] from 11 to 109 (fun s wx => ∃ (ao : Option Addr) (ca : Nat), s = .slice ao i ca ∧ Hid (Om w h c p ⟨en, es, et, ev, false⟩ (0, 0) (c.elems.take i) ao ca wx))
          case first =>
            have hlk : (flatL (c.elems.take i)).length = i * 5 := by rw [flatL_len, List.length_take]; congr 1; omega
            cases hpe : p.lo with
            | none =>
              have HT2 : Hid (FRow (w5.alloc (.cells #[] 59)) none (flatL (c.elems.take i))) := hpe ▸ HT.out
              rw [hpe] at t8
              clear hpe
              go_wp2_with (first
              | (at_builtin
                 refine wpList_onto rfl _ _ 27 rfl Tryz.underlying27 Tryz.infoElem rfl (by decide) (by decide) (B := h + 4) rfl rfl HO.out HT2.out hlk (fun u hu => oneL hu) (by omega) (by simp [hn1]; omega) ?_
                 intro ao ca w2 o2 n2 b2
                 simp only [Nat.zero_add, List.nil_append] at o2 ⊢
                 have H2 : Hid (Om w h c p ⟨en, es, et, ev, false⟩ (0, 0) (c.elems.take i) ao ca w2) := om_of HE0.out HA1.out.1 (by rw [List.length_take]; omega) o2 b2
                 clear o2 n2 b2))
              go_meet
              case rel => exact ⟨ao, ca, rfl, H2.out⟩
            | some a =>
              have HT2 : Hid (FRow (w5.alloc (.cells #[] 59)) (some a) (flatL (c.elems.take i))) := hpe ▸ HT.out
              rw [hpe] at t8
              clear hpe
              obtain ⟨ab, aoff, asp⟩ := a
              go_wp2_with (first
              | (at_builtin
                 refine wpList_onto rfl _ _ 27 rfl Tryz.underlying27 Tryz.infoElem rfl (by decide) (by decide) (B := h + 4) rfl rfl HO.out HT2.out hlk (fun u hu => oneL hu) (by omega) (by simp [hn1]; omega) ?_
                 intro ao ca w2 o2 n2 b2
                 simp only [Nat.zero_add, List.nil_append] at o2 ⊢
                 have H2 : Hid (Om w h c p ⟨en, es, et, ev, false⟩ (0, 0) (c.elems.take i) ao ca w2) := om_of HE0.out HA1.out.1 (by rw [List.length_take]; omega) o2 b2
                 clear o2 n2 b2))
              go_meet
              case rel => exact ⟨ao, ca, rfl, H2.out⟩
          case rest =>
            obtain ⟨w2, rfl⟩ : ∃ z, z = wc := ⟨_, rfl⟩
            obtain ⟨ao, ca, rfl, HQ⟩ := hcut
            clear t8 HT HO HA1 hn1 hn3 hlt8 HRow HE0
            obtain ⟨r0, r1, r2, r3, r4⟩ := HQ.out.1.2.2.1.five
            obtain ⟨n2, hn2⟩ : ∃ n, w2.heap.size = n := ⟨_, rfl⟩
            have hl2 : h + 1 < n2 := by have := HQ.out.1.size; omega
            have hsz2 : h + 4 ≤ w2.heap.size := HQ.out.1.size
            have R2 : FRow (w2.alloc (.cells #[.int .i64 en, .int .i64 es, .int .i64 et, .string ev, .bool false] 59)) (some ⟨n2, 0, none⟩) [.int .i64 en, .int .i64 es, .int .i64 et, .string ev, .bool false] := frow_newAt hn2 [.int .i64 en, .int .i64 es, .int .i64 et, .string ev, .bool false] _
            have hok : w2.ownsRow (h + 4) 59 5 (.slice ao i ca) i (flatL (c.elems.take i)) := by
              have := HQ.out.2
              rw [List.length_take, Nat.min_eq_left hkn] at this
              exact this
            have HOK : Hid (w2.ownsRow (h + 4) 59 5 (.slice ao i ca) i (flatL (c.elems.take i))) := hok
            clear hok
            go_upto_region 13 with (first
              | (at_builtin
                 refine wpList_onto rfl _ _ 27 rfl Tryz.underlying27 Tryz.infoElem rfl (by decide) (by decide) (B := h + 4) rfl rfl (own_later HOK.out ((Below.refl _ _).alloc (Nat.le_refl _) _)) R2 rfl (fun u hu => oneL (l := [⟨en, es, et, ev, false⟩]) (by simpa [flatL] using hu)) (by omega) (by simp; omega) ?_
                 intro ao3 ca3 w3 o3 n3 b3
                 have H3 : Hid (Om w h c p ⟨en, es, et, ev, false⟩ (0, 0) (c.elems.take i ++ [⟨en, es, et, ev, false⟩]) ao3 ca3 w3 ∧ w3.ownsRow (h + 4) 59 5 (.slice ao3 (i + 1) ca3) (i + 1) (flatL (c.elems.take i ++ [⟨en, es, et, ev, false⟩]))) := ⟨HQ.out.grown (m := [⟨en, es, et, ev, false⟩]) (k := 1) ((Below.refl _ _).alloc (Nat.le_refl _) _) hsz2 rfl (by rw [List.length_take, Nat.min_eq_left hkn]; exact o3) b3, by rw [flatL_append]; exact o3⟩
                 clear o3 n3 b3))
            clear R2 HOK HQ r0 r1 r2 r3 r4 hn2 hl2
            have HRow : Hid (FRow w3 p.lo (flatL c.elems)) := (HR.out.1.later (HR.out.2.2.symm ▸ H3.out.1.1.1)).2.1
            have t8 := H3.out.1.1.2.1.at 8 rfl
            have hsz3 : h + 4 ≤ w3.heap.size := H3.out.1.1.size
            have hld : (flatL (c.elems.drop i)).length = (c.elems.length - i) * 5 := by rw [flatL_len, List.length_drop]
            have hLl : L.length = c.elems.length + 1 := by rw [← HB.out]; exact putX_len _ hkn
            go_cut [10] from 11 to 109 (fun s wx => ∃ (ao : Option Addr) (ca : Nat), s = .slice ao L.length ca ∧ Hid (Om w h c p ⟨en, es, et, ev, false⟩ (0, 0) L ao ca wx))
            case first =>
              by_cases hlt : i < c.elems.length
              · obtain ⟨bk, off, ea, hb, _⟩ := HRow.out (by rw [flatL_len]; omega)
                have ROW : Hid (FRow w3 (some ⟨bk, off + i * 5, none⟩) (flatL (c.elems.drop i))) := frow_dropL (ea ▸ HRow.out) i
                rw [ea] at t8
                have hck : ¬ (p.lc = i) := by omega
                clear ea hb HRow
                go_wp2_with (first
                  | (at_builtin
                     refine wpList_onto rfl _ _ 27 rfl Tryz.underlying27 Tryz.infoElem rfl (by decide) (by decide) (B := h + 4) rfl rfl H3.out.2 ROW.out hld (fun u hu => oneL hu) (by omega) hsz3 ?_
                     intro ao4 ca4 w4 o4 n4 b4
                     have H4 : Hid (Om w h c p ⟨en, es, et, ev, false⟩ (0, 0) L ao4 ca4 w4) := by
                       have := H3.out.1.grown (m := c.elems.drop i) (k := c.elems.length - i) (Below.refl _ _) hsz3 (by rw [List.length_drop]) (by rw [List.length_append, List.length_take, Nat.min_eq_left hkn]; exact o4) b4
                       rw [List.append_assoc] at this
                       exact HB.out ▸ this
                     clear o4 n4 b4))
                go_meet
                case rel => exact ⟨ao4, ca4, by congr 1; omega, H4.out⟩
              · have hnil : Hid (flatL (c.elems.drop i) = []) := by
                  show flatL (c.elems.drop i) = []
                  rw [List.drop_eq_nil_of_le (by omega)]; rfl
                have hld0 : (flatL (c.elems.drop i)).length = 0 * 5 := by rw [hnil.out]; rfl
                have hz0 : c.elems.length - i = 0 := by omega
                have hdl : Hid ((c.elems.drop i).length = 0) := by show (c.elems.drop i).length = 0; rw [List.length_drop]; omega
                clear HRow
                cases hpe : p.lo with
                | none =>
                  rw [hpe] at t8
                  clear hpe
                  by_cases hck : p.lc = i
                  · go_wp2_with (first
                      | (at_builtin
                         refine wpList_onto rfl _ _ 27 rfl Tryz.underlying27 Tryz.infoElem rfl (by decide) (by decide) (B := h + 4) rfl rfl H3.out.2 (frow_nilL hnil.out) hld0 (fun u hu => oneL hu) (by omega) hsz3 ?_
                         intro ao4 ca4 w4 o4 n4 b4
                         have H4 : Hid (Om w h c p ⟨en, es, et, ev, false⟩ (0, 0) L ao4 ca4 w4) := by
                           have := H3.out.1.grown (m := c.elems.drop i) (k := 0) (Below.refl _ _) hsz3 hdl.out.symm (by rw [List.length_append, List.length_take, Nat.min_eq_left hkn]; exact o4) b4
                           rw [List.append_assoc] at this
                           exact HB.out ▸ this
                         clear o4 n4 b4))
                    go_meet
                    case rel => exact ⟨ao4, ca4, by congr 1; omega, H4.out⟩
                  · go_wp2_with (first
                      | (at_builtin
                         refine wpList_onto rfl _ _ 27 rfl Tryz.underlying27 Tryz.infoElem rfl (by decide) (by decide) (B := h + 4) rfl rfl H3.out.2 (frow_nilL hnil.out) hld0 (fun u hu => oneL hu) (by omega) hsz3 ?_
                         intro ao4 ca4 w4 o4 n4 b4
                         have H4 : Hid (Om w h c p ⟨en, es, et, ev, false⟩ (0, 0) L ao4 ca4 w4) := by
                           have := H3.out.1.grown (m := c.elems.drop i) (k := 0) (Below.refl _ _) hsz3 hdl.out.symm (by rw [List.length_append, List.length_take, Nat.min_eq_left hkn]; exact o4) b4
                           rw [List.append_assoc] at this
                           exact HB.out ▸ this
                         clear o4 n4 b4))
                    go_meet
                    case rel => exact ⟨ao4, ca4, by congr 1; omega, H4.out⟩
                | some ad =>
                  rw [hpe] at t8
                  clear hpe
                  obtain ⟨ab, aoff, asp⟩ := ad
                  by_cases hck : p.lc = i
                  · go_wp2_with (first
                      | (at_builtin
                         refine wpList_onto rfl _ _ 27 rfl Tryz.underlying27 Tryz.infoElem rfl (by decide) (by decide) (B := h + 4) rfl rfl H3.out.2 (frow_nilL hnil.out) hld0 (fun u hu => oneL hu) (by omega) hsz3 ?_
                         intro ao4 ca4 w4 o4 n4 b4
                         have H4 : Hid (Om w h c p ⟨en, es, et, ev, false⟩ (0, 0) L ao4 ca4 w4) := by
                           have := H3.out.1.grown (m := c.elems.drop i) (k := 0) (Below.refl _ _) hsz3 hdl.out.symm (by rw [List.length_append, List.length_take, Nat.min_eq_left hkn]; exact o4) b4
                           rw [List.append_assoc] at this
                           exact HB.out ▸ this
                         clear o4 n4 b4))
                    go_meet
                    case rel => exact ⟨ao4, ca4, by congr 1; omega, H4.out⟩
                  · go_wp2_with (first
                      | (at_builtin
                         refine wpList_onto rfl _ _ 27 rfl Tryz.underlying27 Tryz.infoElem rfl (by decide) (by decide) (B := h + 4) rfl rfl H3.out.2 (frow_nilL hnil.out) hld0 (fun u hu => oneL hu) (by omega) hsz3 ?_
                         intro ao4 ca4 w4 o4 n4 b4
                         have H4 : Hid (Om w h c p ⟨en, es, et, ev, false⟩ (0, 0) L ao4 ca4 w4) := by
                           have := H3.out.1.grown (m := c.elems.drop i) (k := 0) (Below.refl _ _) hsz3 hdl.out.symm (by rw [List.length_append, List.length_take, Nat.min_eq_left hkn]; exact o4) b4
                           rw [List.append_assoc] at this
                           exact HB.out ▸ this
                         clear o4 n4 b4))
                    go_meet
                    case rel => exact ⟨ao4, ca4, by congr 1; omega, H4.out⟩
            case rest =>
              obtain ⟨wr4, rfl⟩ : ∃ z, z = wc := ⟨_, rfl⟩
              obtain ⟨ao4, ca4, rfl, HE⟩ := hcut
              clear t8 HRow H3 hsz3 hld hLl
              have hsz : h + 4 ≤ wr4.heap.size := HE.out.1.size
              obtain ⟨t0, t1, t2, t3, t4, t5, t6, t7, t8, t9⟩ := HE.out.1.2.1.ten
              go_wp2_with fail
              refine (rcopy_any c p _ (HR.out.1.later (HR.out.2.2.symm ▸ HE.out.1.1)) HR.out.2.1).mono ?_
              rintro e wz ⟨q, rfl, o2, b2⟩
              have HP : Hid (CpIA w h c q L ao4 ca4 (put10 wz h (.int .i64 c.kind) (.bool c.set) (.int .i64 c.time) (.int .i64 c.node) (.string c.val) (.int .i64 c.re) (.int .i64 c.im) (.slice q.eo c.ents.length q.ec) (.slice q.lo c.elems.length q.lc) (.slice q.so c.seen.length q.sc))) := cpI_ofA HE.out hsz o2 b2
              have H2 := HE.out.1.2.1.later b2
              clear t0 t1 t2 t3 t4 t5 t6 t7 t8 t9 o2 b2 HE
              obtain ⟨t0, t1, t2, t3, t4, t5, t6, t7, t8, t9⟩ := H2.ten
              obtain ⟨f0, f1, f2, f3, f4, f5, f6, f7, f8, f9⟩ := H2.tenf
              clear H2
              go_upto_region 15 with fail
              dsimp only [put10] at HP
              clear t0 t1 t2 t3 t4 t5 t6 t7 t8 t9 f0 f1 f2 f3 f4 f5 f6 f7 f8 f9
              generalize hW : World.setCell _ (⟨h, 9, none⟩ : Addr) _ = w6 at HP ⊢
              clear hW
              obtain ⟨t0, t1, t2, t3, t4, t5, t6, t7, t8, t9⟩ := HP.out.2.1.ten
              have f8 := HP.out.2.1.free 8 rfl
              obtain ⟨s0, s1, s2, s3, s4, s5, s6, s7, s8, s9⟩ := HP.out.2.2.1.ten
              obtain ⟨z0, z1, z2, z3, z4, z5, z6, z7, z8, z9⟩ := HP.out.2.2.1.tenf
              have HZ := HP.out.set (.slice ao4 L.length ca4)
              have HZ' : Hid _ := HZ
              clear HZ
              go_wp2_with fail
              exact rendA (d := cL c L) (q := ⟨q.eo, q.ec, ao4, ca4, q.so, q.sc⟩) (a := h + 3) (B := h + 4) (r := 6) HZ'.out.1 HZ'.out.2.1 HZ'.out.2.2 (by omega) (by omega) rfl rfl rfl rfl
  · have hk1' : (atD c.elems (d1, d2)).map (· + 1) = some k0 := by rw [← behindL_else (fun e => hd0 (by simpa using e))]; exact hk0
    obtain ⟨j, hj, hjk⟩ := Option.map_eq_some_iff.1 hk1'
    have hjl := atD_lt hj
    have CB := fun W hr => rplace_any c p (d1, d2) W hr HR.out.2.1
    rw [numD_some hj] at CB
    have hw1 : IntKind.i64.wrap ((j : Int) + 1) = (j : Int) + 1 := by rw [IntKind.wrap_i64]; omega
    have hj1 : ((j : Int) + 1 == 0) = false := by simp; omega
    clear hk hm hx hi hL0 hT hk0 hk1' hj
    by_cases h1 : d1 = 0
    · have e1 : (d1 == 0) = true := by simpa using h1
      have e2 : (d2 == 0) = false := by simpa using fun e => hd0 ⟨h1, e⟩
      clear hd0 h1
      go_enter Tryz.func75, Tryz.ntmps75
      go_wp2_with fail
      refine (C _).mono ?_
      rintro e w1 ⟨rfl, b1⟩
      have H1 : Hid (SetI w h c p ⟨en, es, et, ev, false⟩ (d1, d2) w1) := H0.out.later b1
      clear b1 H0 C
      obtain ⟨r0, r1, r2, r3, r4⟩ := H1.out.2.2.1.five
      obtain ⟨t0, t1, t2, t3, t4, t5, t6, t7, t8, t9⟩ := H1.out.2.1.ten
      have CH := rplace_any c p (en, es) w1 (HR.out.1.later (HR.out.2.2.symm ▸ H1.out.1)) HR.out.2.1
      generalize numD c.elems (en, es) = nd at CH hge
      go_wp2_with fail
      refine CH.mono ?_
      rintro e w2 ⟨rfl, b2⟩
      have H2 : Hid (SetI w h c p ⟨en, es, et, ev, false⟩ (d1, d2) w2) := H1.out.later b2
      clear b2 H1 CH r0 r1 r2 r3 r4 t0 t1 t2 t3 t4 t5 t6 t7 t8 t9
      obtain ⟨r0, r1⟩ := H2.out.2.2.2.1.two
      obtain ⟨t0, t1, t2, t3, t4, t5, t6, t7, t8, t9⟩ := H2.out.2.1.ten
      go_wp2_with fail
      refine (CB w2 (HR.out.1.later (HR.out.2.2.symm ▸ H2.out.1))).mono ?_
      rintro e w3 ⟨rfl, b3⟩
      have H3 : Hid (SetI w h c p ⟨en, es, et, ev, false⟩ (d1, d2) w3) := H2.out.later b3
      clear b3 H2 CB r0 r1 t0 t1 t2 t3 t4 t5 t6 t7 t8 t9 hh
      go_upto_region 8 with fail
      obtain ⟨n, hn⟩ : ∃ n, w3.heap.size = n := ⟨_, rfl⟩
      have hn4 : h + 4 ≤ n := by have := H3.out.size; omega
      have HJ : Hid (Lj w h n c p ⟨en, es, et, ev, false⟩ (d1, d2) (w3.alloc (.cells #[.int .i64 et, .int .i64 en] 23))) := ⟨H3.out.later ((Below.refl _ _).alloc (Nat.le_refl _) _), hn ▸ has_new w3 [.int .i64 et, .int .i64 en] _⟩
      obtain ⟨r0, r1, r2, r3, r4⟩ := H3.out.2.2.1.five
      go_upto_region 9 with fail
      generalize hW : w3.alloc (.cells #[.int .i64 et, .int .i64 en] 23) = w4 at HJ ⊢
      clear hW H3 hn r0 r1 r2 r3 r4
      go_loopg [8] (c.elems.length - k0) (fun m s8 wr => ∃ i : Nat, i + m = c.elems.length ∧ s8 = .int .i64 i ∧ Hid (Lj w h n c p ⟨en, es, et, ev, false⟩ (d1, d2) wr) ∧ Hid (i + pastL et en (c.elems.drop i) = T))
      case atStart => exact ⟨k0, by have := HK.out.2; omega, by rw [← hjk]; simp, HJ.out, HK.out.1⟩
      case round =>
        clear HJ
        obtain ⟨i, hin, rfl, HS, HT0⟩ := hrel
        have t8 := HS.out.1.2.1.at 8 rfl
        go_upto_region 9 with fail
        go_cut [86] from 64 to 88 (fun r wx => ∃ b, r = .bool b ∧ Hid (Lj w h n c p ⟨en, es, et, ev, false⟩ (d1, d2) wx ∧ (b = true → i < c.elems.length ∧ (i + 1) + pastL et en (c.elems.drop (i + 1)) = T) ∧ (b = false → T = i)))
        case first =>
          by_cases hi : i < c.elems.length
          · have hd : decide ((i : Int) < (c.elems.length : Int)) = true := by simpa using hi
            obtain ⟨bk, off, ea, hb, hc⟩ := (HR.out.1.later (HR.out.2.2.symm ▸ HS.out.1.1)).2.1 (by rw [flatL_len]; omega)
            obtain ⟨⟨xn, xs, xt, xv, xg⟩, hx⟩ : ∃ x, c.elems[i]? = some x := ⟨_, List.getElem?_eq_getElem hi⟩
            obtain ⟨g0, g1, g2, g3, g4⟩ := flatL_at c.elems i hx
            rw [ea] at t8
            have HSr : Hid (SrcJ wr h n bk (off + i * 5) c.elems.length p.lc off ⟨en, es, et, ev, false⟩ ⟨xn, xs, xt, xv, xg⟩) := ⟨HS.out.1.2.1.1, t8, HS.out.2, hb, hc _ _ g2, hc _ _ g0⟩
            have HX : Hid (c.elems[i]? = some ⟨xn, xs, xt, xv, xg⟩) := hx
            clear hc hx g0 g1 g2 g3 g4 hb ea
            have CL := fun W => refLess_any et en xt xn W
            cases hq : lessB et en xt xn with
            | true =>
              have HQ : Hid ((i + 1) + pastL et en (c.elems.drop (i + 1)) = T) := by
                have := HT0.out
                rw [pastL_at HX.out, hq, if_pos rfl] at this
                show (i + 1) + pastL et en (c.elems.drop (i + 1)) = _
                omega
              rw [hq] at CL
              go_region_held3 (HeldJ wr h n bk (off + i * 5) c.elems.length p.lc off ⟨en, es, et, ev, false⟩ ⟨xn, xs, xt, xv, xg⟩) (first | (with_reducible apply heldJ_later HSr.out hb2; assumption) | (with_reducible exact heldJ_drew HSr.out))
                (first | (go_at_call 118; with_reducible refine (CL _).mono ?_; rintro r w3 ⟨rfl, hb2⟩))
              all_goals
                (go_wp2
                 go_meet
                 case rel => exact ⟨true, rfl, lj_later HS.out (show HeldJ wr h n bk (off + i * 5) c.elems.length p.lc off ⟨en, es, et, ev, false⟩ ⟨xn, xs, xt, xv, xg⟩ _ by assumption).1.out, fun _ => ⟨hi, HQ.out⟩, fun h => by cases h⟩)
            | false =>
              have HQ : Hid (T = i) := by
                have := HT0.out
                rw [pastL_at HX.out, hq, if_neg (by simp)] at this
                show T = _
                omega
              rw [hq] at CL
              go_region_held3 (HeldJ wr h n bk (off + i * 5) c.elems.length p.lc off ⟨en, es, et, ev, false⟩ ⟨xn, xs, xt, xv, xg⟩) (first | (with_reducible apply heldJ_later HSr.out hb2; assumption) | (with_reducible exact heldJ_drew HSr.out))
                (first | (go_at_call 118; with_reducible refine (CL _).mono ?_; rintro r w3 ⟨rfl, hb2⟩))
              all_goals
                (go_wp2
                 go_meet
                 case rel => exact ⟨false, rfl, lj_later HS.out (show HeldJ wr h n bk (off + i * 5) c.elems.length p.lc off ⟨en, es, et, ev, false⟩ ⟨xn, xs, xt, xv, xg⟩ _ by assumption).1.out, fun h => (by cases h), fun _ => HQ.out⟩)
          · have hd : decide ((i : Int) < (c.elems.length : Int)) = false := by simp; omega
            have HQ : Hid (T = i) := by
              have := HT0.out
              rw [List.drop_eq_nil_of_le (by omega : c.elems.length ≤ i)] at this
              show T = _
              simp only [pastL] at this
              omega
            refine wp_region_held_drew (S := fun W => Hid (Below wr.heap.size wr W) ∧ W.cell? ⟨h, 8, none⟩ = some (.slice p.lo c.elems.length p.lc)) (by kernel_rfl) ⟨(Below.refl _ _).drew, t8⟩ (fun hHeld => ?_)
            refine take_at 0 64 (v := .int .i64 (i : Nat)) rfl (by kernel_rfl) (by kernel_rfl) (by kernel_rfl) (fun _ _ _ h => h) rfl (by rfl) (fun w hSw => ?hy) hHeld ?_
            case hy =>
              try dsimp only at hSw
              go_simp
            simp only [List.set_cons_zero, List.set_cons_succ]
            refine take_at 1 65 (v := .pointer (some ⟨h, 8, none⟩)) rfl (by kernel_rfl) (by kernel_rfl) (by kernel_rfl) (fun _ _ _ h => h) rfl (by rfl) (fun w hSw => ?hy) hHeld ?_
            case hy =>
              try dsimp only at hSw
              go_simp
            simp only [List.set_cons_zero, List.set_cons_succ]
            refine take_at 2 66 (v := .slice p.lo c.elems.length p.lc) rfl (by kernel_rfl) (by kernel_rfl) (by kernel_rfl) (fun _ _ _ h => h) rfl (by rfl) (fun w hSw => ?hy) hHeld ?_
            case hy =>
              try dsimp only at hSw
              go_simp
            simp only [List.set_cons_zero, List.set_cons_succ]
            refine take_at 3 67 (v := .int .i64 (c.elems.length : Nat)) rfl (by kernel_rfl) (by kernel_rfl) (by kernel_rfl) (fun _ _ _ h => h) rfl (by rfl) (fun w hSw => ?hy) hHeld ?_
            case hy =>
              try dsimp only at hSw
              go_simp
            simp only [List.set_cons_zero, List.set_cons_succ]
            refine take_at 4 68 (v := .bool false) rfl (by kernel_rfl) (by kernel_rfl) (by kernel_rfl) (fun _ _ _ h => h) rfl (by rfl) (fun w hSw => ?hy) hHeld ?_
            case hy =>
              try dsimp only at hSw
              go_simp
            simp only [List.set_cons_zero, List.set_cons_succ]
            refine take_at 5 69 (v := .bool false) rfl (by kernel_rfl) (by kernel_rfl) (by kernel_rfl) (fun _ _ _ h => h) rfl (by rfl) (fun w hSw => ?hy) hHeld ?_
            case hy =>
              try dsimp only at hSw
              go_simp
            simp only [List.set_cons_zero, List.set_cons_succ]
            refine skip_at 6 70 rfl (by kernel_rfl) (by kernel_rfl) (by kernel_rfl) (fun _ _ _ h => h) rfl (by rfl) hHeld ?_
            simp only [List.set_cons_zero, List.set_cons_succ]
            refine skip_at 7 71 rfl (by kernel_rfl) (by kernel_rfl) (by kernel_rfl) (fun _ _ _ h => h) rfl (by rfl) hHeld ?_
            simp only [List.set_cons_zero, List.set_cons_succ]
            refine skip_at 8 72 rfl (by kernel_rfl) (by kernel_rfl) (by kernel_rfl) (fun _ _ _ h => h) rfl (by rfl) hHeld ?_
            simp only [List.set_cons_zero, List.set_cons_succ]
            refine skip_at 9 73 rfl (by kernel_rfl) (by kernel_rfl) (by kernel_rfl) (fun _ _ _ h => h) rfl (by rfl) hHeld ?_
            simp only [List.set_cons_zero, List.set_cons_succ]
            refine skip_at 10 74 rfl (by kernel_rfl) (by kernel_rfl) (by kernel_rfl) (fun _ _ _ h => h) rfl (by rfl) hHeld ?_
            simp only [List.set_cons_zero, List.set_cons_succ]
            refine skip_at 11 75 rfl (by kernel_rfl) (by kernel_rfl) (by kernel_rfl) (fun _ _ _ h => h) rfl (by rfl) hHeld ?_
            simp only [List.set_cons_zero, List.set_cons_succ]
            refine skip_at 12 76 rfl (by kernel_rfl) (by kernel_rfl) (by kernel_rfl) (fun _ _ _ h => h) rfl (by rfl) hHeld ?_
            simp only [List.set_cons_zero, List.set_cons_succ]
            refine skip_at 13 77 rfl (by kernel_rfl) (by kernel_rfl) (by kernel_rfl) (fun _ _ _ h => h) rfl (by rfl) hHeld ?_
            simp only [List.set_cons_zero, List.set_cons_succ]
            refine skip_at 14 78 rfl (by kernel_rfl) (by kernel_rfl) (by kernel_rfl) (fun _ _ _ h => h) rfl (by rfl) hHeld ?_
            simp only [List.set_cons_zero, List.set_cons_succ]
            refine skip_at 15 79 rfl (by kernel_rfl) (by kernel_rfl) (by kernel_rfl) (fun _ _ _ h => h) rfl (by rfl) hHeld ?_
            simp only [List.set_cons_zero, List.set_cons_succ]
            refine skip_at 16 80 rfl (by kernel_rfl) (by kernel_rfl) (by kernel_rfl) (fun _ _ _ h => h) rfl (by rfl) hHeld ?_
            simp only [List.set_cons_zero, List.set_cons_succ]
            refine skip_at 17 81 rfl (by kernel_rfl) (by kernel_rfl) (by kernel_rfl) (fun _ _ _ h => h) rfl (by rfl) hHeld ?_
            simp only [List.set_cons_zero, List.set_cons_succ]
            refine skip_at 18 82 rfl (by kernel_rfl) (by kernel_rfl) (by kernel_rfl) (fun _ _ _ h => h) rfl (by rfl) hHeld ?_
            simp only [List.set_cons_zero, List.set_cons_succ]
            refine skip_at 19 83 rfl (by kernel_rfl) (by kernel_rfl) (by kernel_rfl) (fun _ _ _ h => h) rfl (by rfl) hHeld ?_
            simp only [List.set_cons_zero, List.set_cons_succ]
            refine skip_at 20 84 rfl (by kernel_rfl) (by kernel_rfl) (by kernel_rfl) (fun _ _ _ h => h) rfl (by rfl) hHeld ?_
            simp only [List.set_cons_zero, List.set_cons_succ]
            refine wpAnyH_ready (rs := [21]) (by kernel_rfl) (by simp) ?_
            refine AllReadyH.cons rfl (fun K hK => ?_) AllReadyH.nil
            go_simp
            refine hK.out _ _ hHeld (fun hHeld => ?_)
            clear hK K
            try simp only [Act.put, List.setIfInBounds_toArray, List.set_cons_zero, List.set_cons_succ]
            refine wpAnyH_ready (rs := [22]) (by kernel_rfl) (by simp) ?_
            refine AllReadyH.cons rfl (fun K hK => ?_) AllReadyH.nil
            go_simp
            refine hK.out _ _ hHeld (fun hHeld => ?_)
            clear hK K
            try simp only [Act.put, List.setIfInBounds_toArray, List.set_cons_zero, List.set_cons_succ]
            refine wpAnyH_done (by kernel_rfl) ?_ _
            go_wp2
            go_meet
            case rel => exact ⟨false, rfl, lj_later HS.out hHeld.1.out, fun h => (by cases h), fun _ => HQ.out⟩
        case rest =>
          obtain ⟨w5, rfl⟩ : ∃ z, z = wc := ⟨_, rfl⟩
          obtain ⟨b, rfl, HQ0⟩ := hcut
          clear t8 HS HT0
          cases b with
          | true =>
            have hil := (HQ0.out.2.1 rfl).1
            have HN : Hid ((i + 1) + pastL et en (c.elems.drop (i + 1)) = T) := (HQ0.out.2.1 rfl).2
            go_wp2
            go_roundg (gk - 1)
            case measure => omega
            case rel => exact ⟨i + 1, by omega, by go_num, HQ0.out.1, HN.out⟩
          | false =>
            have hTi := HQ0.out.2.2 rfl
            have HQ : Hid (SetI w h c p ⟨en, es, et, ev, false⟩ (d1, d2) w5) := HQ0.out.1.1
            have HL2 : putX c.elems i ⟨en, es, et, ev, false⟩ = L := hTi ▸ HL.out
            have hkn : i ≤ c.elems.length := by omega
            clear HQ0 hTi HL HK
            have HB : Hid (putX c.elems i ⟨en, es, et, ev, false⟩ = L) := HL2
            have HE0 : Hid (SetI w h c p ⟨en, es, et, ev, false⟩ (d1, d2) w5) := HQ.out
            have t8 := HE0.out.2.1.at 8 rfl
            obtain ⟨n1, hn1⟩ : ∃ n, w5.heap.size = n := ⟨_, rfl⟩
            have hn3 : h + 4 ≤ n1 := by have := HE0.out.size; omega
            have HRow : Hid (FRow w5 p.lo (flatL c.elems)) := (HR.out.1.later (HR.out.2.2.symm ▸ HE0.out.1)).2.1
            have HT : Hid (FRow (w5.alloc (.cells #[] 59)) p.lo (flatL (c.elems.take i))) := frow_takeL (HRow.out.later ((Below.refl _ _).alloc (Nat.le_refl _) _)) i
            have HO : Hid ((w5.alloc (.cells #[] 59)).ownsRow (h + 4) 59 5 (.slice (some ⟨n1, 0, none⟩) 0 0) 0 []) := own_mono (own_empty hn1) hn3
            have HA1 : Hid (Below w5.heap.size w5 (w5.alloc (.cells #[] 59)) ∧ h + 4 ≤ w5.heap.size) := ⟨(Below.refl _ _).alloc (Nat.le_refl _) _, by omega⟩
            have hlt8 : h < n1 := by omega
            go_upto_region 11 with fail
            go_cut [10] from 11 to 109 (fun s wx => ∃ (ao : Option Addr) (ca : Nat), s = .slice ao i ca ∧ Hid (Om w h c p ⟨en, es, et, ev, false⟩ (d1, d2) (c.elems.take i) ao ca wx))
            case first =>
              have hlk : (flatL (c.elems.take i)).length = i * 5 := by rw [flatL_len, List.length_take]; congr 1; omega
              cases hpe : p.lo with
              | none =>
                have HT2 : Hid (FRow (w5.alloc (.cells #[] 59)) none (flatL (c.elems.take i))) := hpe ▸ HT.out
                rw [hpe] at t8
                clear hpe
                go_wp2_with (first
                | (at_builtin
                   refine wpList_onto rfl _ _ 27 rfl Tryz.underlying27 Tryz.infoElem rfl (by decide) (by decide) (B := h + 4) rfl rfl HO.out HT2.out hlk (fun u hu => oneL hu) (by omega) (by simp [hn1]; omega) ?_
                   intro ao ca w2 o2 n2 b2
                   simp only [Nat.zero_add, List.nil_append] at o2 ⊢
                   have H2 : Hid (Om w h c p ⟨en, es, et, ev, false⟩ (d1, d2) (c.elems.take i) ao ca w2) := om_of HE0.out HA1.out.1 (by rw [List.length_take]; omega) o2 b2
                   clear o2 n2 b2))
                go_meet
                case rel => exact ⟨ao, ca, rfl, H2.out⟩
              | some a =>
                have HT2 : Hid (FRow (w5.alloc (.cells #[] 59)) (some a) (flatL (c.elems.take i))) := hpe ▸ HT.out
                rw [hpe] at t8
                clear hpe
                obtain ⟨ab, aoff, asp⟩ := a
                go_wp2_with (first
                | (at_builtin
                   refine wpList_onto rfl _ _ 27 rfl Tryz.underlying27 Tryz.infoElem rfl (by decide) (by decide) (B := h + 4) rfl rfl HO.out HT2.out hlk (fun u hu => oneL hu) (by omega) (by simp [hn1]; omega) ?_
                   intro ao ca w2 o2 n2 b2
                   simp only [Nat.zero_add, List.nil_append] at o2 ⊢
                   have H2 : Hid (Om w h c p ⟨en, es, et, ev, false⟩ (d1, d2) (c.elems.take i) ao ca w2) := om_of HE0.out HA1.out.1 (by rw [List.length_take]; omega) o2 b2
                   clear o2 n2 b2))
                go_meet
                case rel => exact ⟨ao, ca, rfl, H2.out⟩
            case rest =>
              obtain ⟨w2, rfl⟩ : ∃ z, z = wc := ⟨_, rfl⟩
              obtain ⟨ao, ca, rfl, HQ⟩ := hcut
              clear t8 HT HO HA1 hn1 hn3 hlt8 HRow HE0
              obtain ⟨r0, r1, r2, r3, r4⟩ := HQ.out.1.2.2.1.five
              obtain ⟨n2, hn2⟩ : ∃ n, w2.heap.size = n := ⟨_, rfl⟩
              have hl2 : h + 1 < n2 := by have := HQ.out.1.size; omega
              have hsz2 : h + 4 ≤ w2.heap.size := HQ.out.1.size
              have R2 : FRow (w2.alloc (.cells #[.int .i64 en, .int .i64 es, .int .i64 et, .string ev, .bool false] 59)) (some ⟨n2, 0, none⟩) [.int .i64 en, .int .i64 es, .int .i64 et, .string ev, .bool false] := frow_newAt hn2 [.int .i64 en, .int .i64 es, .int .i64 et, .string ev, .bool false] _
              have hok : w2.ownsRow (h + 4) 59 5 (.slice ao i ca) i (flatL (c.elems.take i)) := by
                have := HQ.out.2
                rw [List.length_take, Nat.min_eq_left hkn] at this
                exact this
              have HOK : Hid (w2.ownsRow (h + 4) 59 5 (.slice ao i ca) i (flatL (c.elems.take i))) := hok
              clear hok
              go_upto_region 13 with (first
                | (at_builtin
                   refine wpList_onto rfl _ _ 27 rfl Tryz.underlying27 Tryz.infoElem rfl (by decide) (by decide) (B := h + 4) rfl rfl (own_later HOK.out ((Below.refl _ _).alloc (Nat.le_refl _) _)) R2 rfl (fun u hu => oneL (l := [⟨en, es, et, ev, false⟩]) (by simpa [flatL] using hu)) (by omega) (by simp; omega) ?_
                   intro ao3 ca3 w3 o3 n3 b3
                   have H3 : Hid (Om w h c p ⟨en, es, et, ev, false⟩ (d1, d2) (c.elems.take i ++ [⟨en, es, et, ev, false⟩]) ao3 ca3 w3 ∧ w3.ownsRow (h + 4) 59 5 (.slice ao3 (i + 1) ca3) (i + 1) (flatL (c.elems.take i ++ [⟨en, es, et, ev, false⟩]))) := ⟨HQ.out.grown (m := [⟨en, es, et, ev, false⟩]) (k := 1) ((Below.refl _ _).alloc (Nat.le_refl _) _) hsz2 rfl (by rw [List.length_take, Nat.min_eq_left hkn]; exact o3) b3, by rw [flatL_append]; exact o3⟩
                   clear o3 n3 b3))
              clear R2 HOK HQ r0 r1 r2 r3 r4 hn2 hl2
              have HRow : Hid (FRow w3 p.lo (flatL c.elems)) := (HR.out.1.later (HR.out.2.2.symm ▸ H3.out.1.1.1)).2.1
              have t8 := H3.out.1.1.2.1.at 8 rfl
              have hsz3 : h + 4 ≤ w3.heap.size := H3.out.1.1.size
              have hld : (flatL (c.elems.drop i)).length = (c.elems.length - i) * 5 := by rw [flatL_len, List.length_drop]
              have hLl : L.length = c.elems.length + 1 := by rw [← HB.out]; exact putX_len _ hkn
              go_cut [10] from 11 to 109 (fun s wx => ∃ (ao : Option Addr) (ca : Nat), s = .slice ao L.length ca ∧ Hid (Om w h c p ⟨en, es, et, ev, false⟩ (d1, d2) L ao ca wx))
              case first =>
                by_cases hlt : i < c.elems.length
                · obtain ⟨bk, off, ea, hb, _⟩ := HRow.out (by rw [flatL_len]; omega)
                  have ROW : Hid (FRow w3 (some ⟨bk, off + i * 5, none⟩) (flatL (c.elems.drop i))) := frow_dropL (ea ▸ HRow.out) i
                  rw [ea] at t8
                  have hck : ¬ (p.lc = i) := by omega
                  clear ea hb HRow
                  go_wp2_with (first
                    | (at_builtin
                       refine wpList_onto rfl _ _ 27 rfl Tryz.underlying27 Tryz.infoElem rfl (by decide) (by decide) (B := h + 4) rfl rfl H3.out.2 ROW.out hld (fun u hu => oneL hu) (by omega) hsz3 ?_
                       intro ao4 ca4 w4 o4 n4 b4
                       have H4 : Hid (Om w h c p ⟨en, es, et, ev, false⟩ (d1, d2) L ao4 ca4 w4) := by
                         have := H3.out.1.grown (m := c.elems.drop i) (k := c.elems.length - i) (Below.refl _ _) hsz3 (by rw [List.length_drop]) (by rw [List.length_append, List.length_take, Nat.min_eq_left hkn]; exact o4) b4
                         rw [List.append_assoc] at this
                         exact HB.out ▸ this
                       clear o4 n4 b4))
                  go_meet
                  case rel => exact ⟨ao4, ca4, by congr 1; omega, H4.out⟩
                · have hnil : Hid (flatL (c.elems.drop i) = []) := by
                    show flatL (c.elems.drop i) = []
                    rw [List.drop_eq_nil_of_le (by omega)]; rfl
                  have hld0 : (flatL (c.elems.drop i)).length = 0 * 5 := by rw [hnil.out]; rfl
                  have hz0 : c.elems.length - i = 0 := by omega
                  have hdl : Hid ((c.elems.drop i).length = 0) := by show (c.elems.drop i).length = 0; rw [List.length_drop]; omega
                  clear HRow
                  cases hpe : p.lo with
                  | none =>
                    rw [hpe] at t8
                    clear hpe
                    by_cases hck : p.lc = i
                    · go_wp2_with (first
                        | (at_builtin
                           refine wpList_onto rfl _ _ 27 rfl Tryz.underlying27 Tryz.infoElem rfl (by decide) (by decide) (B := h + 4) rfl rfl H3.out.2 (frow_nilL hnil.out) hld0 (fun u hu => oneL hu) (by omega) hsz3 ?_
                           intro ao4 ca4 w4 o4 n4 b4
                           have H4 : Hid (Om w h c p ⟨en, es, et, ev, false⟩ (d1, d2) L ao4 ca4 w4) := by
                             have := H3.out.1.grown (m := c.elems.drop i) (k := 0) (Below.refl _ _) hsz3 hdl.out.symm (by rw [List.length_append, List.length_take, Nat.min_eq_left hkn]; exact o4) b4
                             rw [List.append_assoc] at this
                             exact HB.out ▸ this
                           clear o4 n4 b4))
                      go_meet
                      case rel => exact ⟨ao4, ca4, by congr 1; omega, H4.out⟩
                    · go_wp2_with (first
                        | (at_builtin
                           refine wpList_onto rfl _ _ 27 rfl Tryz.underlying27 Tryz.infoElem rfl (by decide) (by decide) (B := h + 4) rfl rfl H3.out.2 (frow_nilL hnil.out) hld0 (fun u hu => oneL hu) (by omega) hsz3 ?_
                           intro ao4 ca4 w4 o4 n4 b4
                           have H4 : Hid (Om w h c p ⟨en, es, et, ev, false⟩ (d1, d2) L ao4 ca4 w4) := by
                             have := H3.out.1.grown (m := c.elems.drop i) (k := 0) (Below.refl _ _) hsz3 hdl.out.symm (by rw [List.length_append, List.length_take, Nat.min_eq_left hkn]; exact o4) b4
                             rw [List.append_assoc] at this
                             exact HB.out ▸ this
                           clear o4 n4 b4))
                      go_meet
                      case rel => exact ⟨ao4, ca4, by congr 1; omega, H4.out⟩
                  | some ad =>
                    rw [hpe] at t8
                    clear hpe
                    obtain ⟨ab, aoff, asp⟩ := ad
                    by_cases hck : p.lc = i
                    · go_wp2_with (first
                        | (at_builtin
                           refine wpList_onto rfl _ _ 27 rfl Tryz.underlying27 Tryz.infoElem rfl (by decide) (by decide) (B := h + 4) rfl rfl H3.out.2 (frow_nilL hnil.out) hld0 (fun u hu => oneL hu) (by omega) hsz3 ?_
                           intro ao4 ca4 w4 o4 n4 b4
                           have H4 : Hid (Om w h c p ⟨en, es, et, ev, false⟩ (d1, d2) L ao4 ca4 w4) := by
                             have := H3.out.1.grown (m := c.elems.drop i) (k := 0) (Below.refl _ _) hsz3 hdl.out.symm (by rw [List.length_append, List.length_take, Nat.min_eq_left hkn]; exact o4) b4
                             rw [List.append_assoc] at this
                             exact HB.out ▸ this
                           clear o4 n4 b4))
                      go_meet
                      case rel => exact ⟨ao4, ca4, by congr 1; omega, H4.out⟩
                    · go_wp2_with (first
                        | (at_builtin
                           refine wpList_onto rfl _ _ 27 rfl Tryz.underlying27 Tryz.infoElem rfl (by decide) (by decide) (B := h + 4) rfl rfl H3.out.2 (frow_nilL hnil.out) hld0 (fun u hu => oneL hu) (by omega) hsz3 ?_
                           intro ao4 ca4 w4 o4 n4 b4
                           have H4 : Hid (Om w h c p ⟨en, es, et, ev, false⟩ (d1, d2) L ao4 ca4 w4) := by
                             have := H3.out.1.grown (m := c.elems.drop i) (k := 0) (Below.refl _ _) hsz3 hdl.out.symm (by rw [List.length_append, List.length_take, Nat.min_eq_left hkn]; exact o4) b4
                             rw [List.append_assoc] at this
                             exact HB.out ▸ this
                           clear o4 n4 b4))
                      go_meet
                      case rel => exact ⟨ao4, ca4, by congr 1; omega, H4.out⟩
              case rest =>
                obtain ⟨wr4, rfl⟩ : ∃ z, z = wc := ⟨_, rfl⟩
                obtain ⟨ao4, ca4, rfl, HE⟩ := hcut
                clear t8 HRow H3 hsz3 hld hLl
                have hsz : h + 4 ≤ wr4.heap.size := HE.out.1.size
                obtain ⟨t0, t1, t2, t3, t4, t5, t6, t7, t8, t9⟩ := HE.out.1.2.1.ten
                go_wp2_with fail
                refine (rcopy_any c p _ (HR.out.1.later (HR.out.2.2.symm ▸ HE.out.1.1)) HR.out.2.1).mono ?_
                rintro e wz ⟨q, rfl, o2, b2⟩
                have HP : Hid (CpIA w h c q L ao4 ca4 (put10 wz h (.int .i64 c.kind) (.bool c.set) (.int .i64 c.time) (.int .i64 c.node) (.string c.val) (.int .i64 c.re) (.int .i64 c.im) (.slice q.eo c.ents.length q.ec) (.slice q.lo c.elems.length q.lc) (.slice q.so c.seen.length q.sc))) := cpI_ofA HE.out hsz o2 b2
                have H2 := HE.out.1.2.1.later b2
                clear t0 t1 t2 t3 t4 t5 t6 t7 t8 t9 o2 b2 HE
                obtain ⟨t0, t1, t2, t3, t4, t5, t6, t7, t8, t9⟩ := H2.ten
                obtain ⟨f0, f1, f2, f3, f4, f5, f6, f7, f8, f9⟩ := H2.tenf
                clear H2
                go_upto_region 15 with fail
                dsimp only [put10] at HP
                clear t0 t1 t2 t3 t4 t5 t6 t7 t8 t9 f0 f1 f2 f3 f4 f5 f6 f7 f8 f9
                generalize hW : World.setCell _ (⟨h, 9, none⟩ : Addr) _ = w6 at HP ⊢
                clear hW
                obtain ⟨t0, t1, t2, t3, t4, t5, t6, t7, t8, t9⟩ := HP.out.2.1.ten
                have f8 := HP.out.2.1.free 8 rfl
                obtain ⟨s0, s1, s2, s3, s4, s5, s6, s7, s8, s9⟩ := HP.out.2.2.1.ten
                obtain ⟨z0, z1, z2, z3, z4, z5, z6, z7, z8, z9⟩ := HP.out.2.2.1.tenf
                have HZ := HP.out.set (.slice ao4 L.length ca4)
                have HZ' : Hid _ := HZ
                clear HZ
                go_wp2_with fail
                exact rendA (d := cL c L) (q := ⟨q.eo, q.ec, ao4, ca4, q.so, q.sc⟩) (a := h + 3) (B := h + 4) (r := 6) HZ'.out.1 HZ'.out.2.1 HZ'.out.2.2 (by omega) (by omega) rfl rfl rfl rfl
    · have e1 : (d1 == 0) = false := by simpa using h1
      clear hd0 h1
      go_enter Tryz.func75, Tryz.ntmps75
      go_wp2_with fail
      refine (C _).mono ?_
      rintro e w1 ⟨rfl, b1⟩
      have H1 : Hid (SetI w h c p ⟨en, es, et, ev, false⟩ (d1, d2) w1) := H0.out.later b1
      clear b1 H0 C
      obtain ⟨r0, r1, r2, r3, r4⟩ := H1.out.2.2.1.five
      obtain ⟨t0, t1, t2, t3, t4, t5, t6, t7, t8, t9⟩ := H1.out.2.1.ten
      have CH := rplace_any c p (en, es) w1 (HR.out.1.later (HR.out.2.2.symm ▸ H1.out.1)) HR.out.2.1
      generalize numD c.elems (en, es) = nd at CH hge
      go_wp2_with fail
      refine CH.mono ?_
      rintro e w2 ⟨rfl, b2⟩
      have H2 : Hid (SetI w h c p ⟨en, es, et, ev, false⟩ (d1, d2) w2) := H1.out.later b2
      clear b2 H1 CH r0 r1 r2 r3 r4 t0 t1 t2 t3 t4 t5 t6 t7 t8 t9
      obtain ⟨r0, r1⟩ := H2.out.2.2.2.1.two
      obtain ⟨t0, t1, t2, t3, t4, t5, t6, t7, t8, t9⟩ := H2.out.2.1.ten
      go_wp2_with fail
      refine (CB w2 (HR.out.1.later (HR.out.2.2.symm ▸ H2.out.1))).mono ?_
      rintro e w3 ⟨rfl, b3⟩
      have H3 : Hid (SetI w h c p ⟨en, es, et, ev, false⟩ (d1, d2) w3) := H2.out.later b3
      clear b3 H2 CB r0 r1 t0 t1 t2 t3 t4 t5 t6 t7 t8 t9 hh
      go_upto_region 8 with fail
      obtain ⟨n, hn⟩ : ∃ n, w3.heap.size = n := ⟨_, rfl⟩
      have hn4 : h + 4 ≤ n := by have := H3.out.size; omega
      have HJ : Hid (Lj w h n c p ⟨en, es, et, ev, false⟩ (d1, d2) (w3.alloc (.cells #[.int .i64 et, .int .i64 en] 23))) := ⟨H3.out.later ((Below.refl _ _).alloc (Nat.le_refl _) _), hn ▸ has_new w3 [.int .i64 et, .int .i64 en] _⟩
      obtain ⟨r0, r1, r2, r3, r4⟩ := H3.out.2.2.1.five
      go_upto_region 9 with fail
      generalize hW : w3.alloc (.cells #[.int .i64 et, .int .i64 en] 23) = w4 at HJ ⊢
      clear hW H3 hn r0 r1 r2 r3 r4
      go_loopg [8] (c.elems.length - k0) (fun m s8 wr => ∃ i : Nat, i + m = c.elems.length ∧ s8 = .int .i64 i ∧ Hid (Lj w h n c p ⟨en, es, et, ev, false⟩ (d1, d2) wr) ∧ Hid (i + pastL et en (c.elems.drop i) = T))
      case atStart => exact ⟨k0, by have := HK.out.2; omega, by rw [← hjk]; simp, HJ.out, HK.out.1⟩
      case round =>
        clear HJ
        obtain ⟨i, hin, rfl, HS, HT0⟩ := hrel
        have t8 := HS.out.1.2.1.at 8 rfl
        go_upto_region 9 with fail
        go_cut [86] from 64 to 88 (fun r wx => ∃ b, r = .bool b ∧ Hid (Lj w h n c p ⟨en, es, et, ev, false⟩ (d1, d2) wx ∧ (b = true → i < c.elems.length ∧ (i + 1) + pastL et en (c.elems.drop (i + 1)) = T) ∧ (b = false → T = i)))
        case first =>
          by_cases hi : i < c.elems.length
          · have hd : decide ((i : Int) < (c.elems.length : Int)) = true := by simpa using hi
            obtain ⟨bk, off, ea, hb, hc⟩ := (HR.out.1.later (HR.out.2.2.symm ▸ HS.out.1.1)).2.1 (by rw [flatL_len]; omega)
            obtain ⟨⟨xn, xs, xt, xv, xg⟩, hx⟩ : ∃ x, c.elems[i]? = some x := ⟨_, List.getElem?_eq_getElem hi⟩
            obtain ⟨g0, g1, g2, g3, g4⟩ := flatL_at c.elems i hx
            rw [ea] at t8
            have HSr : Hid (SrcJ wr h n bk (off + i * 5) c.elems.length p.lc off ⟨en, es, et, ev, false⟩ ⟨xn, xs, xt, xv, xg⟩) := ⟨HS.out.1.2.1.1, t8, HS.out.2, hb, hc _ _ g2, hc _ _ g0⟩
            have HX : Hid (c.elems[i]? = some ⟨xn, xs, xt, xv, xg⟩) := hx
            clear hc hx g0 g1 g2 g3 g4 hb ea
            have CL := fun W => refLess_any et en xt xn W
            cases hq : lessB et en xt xn with
            | true =>
              have HQ : Hid ((i + 1) + pastL et en (c.elems.drop (i + 1)) = T) := by
                have := HT0.out
                rw [pastL_at HX.out, hq, if_pos rfl] at this
                show (i + 1) + pastL et en (c.elems.drop (i + 1)) = _
                omega
              rw [hq] at CL
              go_region_held3 (HeldJ wr h n bk (off + i * 5) c.elems.length p.lc off ⟨en, es, et, ev, false⟩ ⟨xn, xs, xt, xv, xg⟩) (first | (with_reducible apply heldJ_later HSr.out hb2; assumption) | (with_reducible exact heldJ_drew HSr.out))
                (first | (go_at_call 118; with_reducible refine (CL _).mono ?_; rintro r w3 ⟨rfl, hb2⟩))
              all_goals
                (go_wp2
                 go_meet
                 case rel => exact ⟨true, rfl, lj_later HS.out (show HeldJ wr h n bk (off + i * 5) c.elems.length p.lc off ⟨en, es, et, ev, false⟩ ⟨xn, xs, xt, xv, xg⟩ _ by assumption).1.out, fun _ => ⟨hi, HQ.out⟩, fun h => by cases h⟩)
            | false =>
              have HQ : Hid (T = i) := by
                have := HT0.out
                rw [pastL_at HX.out, hq, if_neg (by simp)] at this
                show T = _
                omega
              rw [hq] at CL
              go_region_held3 (HeldJ wr h n bk (off + i * 5) c.elems.length p.lc off ⟨en, es, et, ev, false⟩ ⟨xn, xs, xt, xv, xg⟩) (first | (with_reducible apply heldJ_later HSr.out hb2; assumption) | (with_reducible exact heldJ_drew HSr.out))
                (first | (go_at_call 118; with_reducible refine (CL _).mono ?_; rintro r w3 ⟨rfl, hb2⟩))
              all_goals
                (go_wp2
                 go_meet
                 case rel => exact ⟨false, rfl, lj_later HS.out (show HeldJ wr h n bk (off + i * 5) c.elems.length p.lc off ⟨en, es, et, ev, false⟩ ⟨xn, xs, xt, xv, xg⟩ _ by assumption).1.out, fun h => (by cases h), fun _ => HQ.out⟩)
          · have hd : decide ((i : Int) < (c.elems.length : Int)) = false := by simp; omega
            have HQ : Hid (T = i) := by
              have := HT0.out
              rw [List.drop_eq_nil_of_le (by omega : c.elems.length ≤ i)] at this
              show T = _
              simp only [pastL] at this
              omega
            refine wp_region_held_drew (S := fun W => Hid (Below wr.heap.size wr W) ∧ W.cell? ⟨h, 8, none⟩ = some (.slice p.lo c.elems.length p.lc)) (by kernel_rfl) ⟨(Below.refl _ _).drew, t8⟩ (fun hHeld => ?_)
            refine take_at 0 64 (v := .int .i64 (i : Nat)) rfl (by kernel_rfl) (by kernel_rfl) (by kernel_rfl) (fun _ _ _ h => h) rfl (by rfl) (fun w hSw => ?hy) hHeld ?_
            case hy =>
              try dsimp only at hSw
              go_simp
            simp only [List.set_cons_zero, List.set_cons_succ]
            refine take_at 1 65 (v := .pointer (some ⟨h, 8, none⟩)) rfl (by kernel_rfl) (by kernel_rfl) (by kernel_rfl) (fun _ _ _ h => h) rfl (by rfl) (fun w hSw => ?hy) hHeld ?_
            case hy =>
              try dsimp only at hSw
              go_simp
            simp only [List.set_cons_zero, List.set_cons_succ]
            refine take_at 2 66 (v := .slice p.lo c.elems.length p.lc) rfl (by kernel_rfl) (by kernel_rfl) (by kernel_rfl) (fun _ _ _ h => h) rfl (by rfl) (fun w hSw => ?hy) hHeld ?_
            case hy =>
              try dsimp only at hSw
              go_simp
            simp only [List.set_cons_zero, List.set_cons_succ]
            refine take_at 3 67 (v := .int .i64 (c.elems.length : Nat)) rfl (by kernel_rfl) (by kernel_rfl) (by kernel_rfl) (fun _ _ _ h => h) rfl (by rfl) (fun w hSw => ?hy) hHeld ?_
            case hy =>
              try dsimp only at hSw
              go_simp
            simp only [List.set_cons_zero, List.set_cons_succ]
            refine take_at 4 68 (v := .bool false) rfl (by kernel_rfl) (by kernel_rfl) (by kernel_rfl) (fun _ _ _ h => h) rfl (by rfl) (fun w hSw => ?hy) hHeld ?_
            case hy =>
              try dsimp only at hSw
              go_simp
            simp only [List.set_cons_zero, List.set_cons_succ]
            refine take_at 5 69 (v := .bool false) rfl (by kernel_rfl) (by kernel_rfl) (by kernel_rfl) (fun _ _ _ h => h) rfl (by rfl) (fun w hSw => ?hy) hHeld ?_
            case hy =>
              try dsimp only at hSw
              go_simp
            simp only [List.set_cons_zero, List.set_cons_succ]
            refine skip_at 6 70 rfl (by kernel_rfl) (by kernel_rfl) (by kernel_rfl) (fun _ _ _ h => h) rfl (by rfl) hHeld ?_
            simp only [List.set_cons_zero, List.set_cons_succ]
            refine skip_at 7 71 rfl (by kernel_rfl) (by kernel_rfl) (by kernel_rfl) (fun _ _ _ h => h) rfl (by rfl) hHeld ?_
            simp only [List.set_cons_zero, List.set_cons_succ]
            refine skip_at 8 72 rfl (by kernel_rfl) (by kernel_rfl) (by kernel_rfl) (fun _ _ _ h => h) rfl (by rfl) hHeld ?_
            simp only [List.set_cons_zero, List.set_cons_succ]
            refine skip_at 9 73 rfl (by kernel_rfl) (by kernel_rfl) (by kernel_rfl) (fun _ _ _ h => h) rfl (by rfl) hHeld ?_
            simp only [List.set_cons_zero, List.set_cons_succ]
            refine skip_at 10 74 rfl (by kernel_rfl) (by kernel_rfl) (by kernel_rfl) (fun _ _ _ h => h) rfl (by rfl) hHeld ?_
            simp only [List.set_cons_zero, List.set_cons_succ]
            refine skip_at 11 75 rfl (by kernel_rfl) (by kernel_rfl) (by kernel_rfl) (fun _ _ _ h => h) rfl (by rfl) hHeld ?_
            simp only [List.set_cons_zero, List.set_cons_succ]
            refine skip_at 12 76 rfl (by kernel_rfl) (by kernel_rfl) (by kernel_rfl) (fun _ _ _ h => h) rfl (by rfl) hHeld ?_
            simp only [List.set_cons_zero, List.set_cons_succ]
            refine skip_at 13 77 rfl (by kernel_rfl) (by kernel_rfl) (by kernel_rfl) (fun _ _ _ h => h) rfl (by rfl) hHeld ?_
            simp only [List.set_cons_zero, List.set_cons_succ]
            refine skip_at 14 78 rfl (by kernel_rfl) (by kernel_rfl) (by kernel_rfl) (fun _ _ _ h => h) rfl (by rfl) hHeld ?_
            simp only [List.set_cons_zero, List.set_cons_succ]
            refine skip_at 15 79 rfl (by kernel_rfl) (by kernel_rfl) (by kernel_rfl) (fun _ _ _ h => h) rfl (by rfl) hHeld ?_
            simp only [List.set_cons_zero, List.set_cons_succ]
            refine skip_at 16 80 rfl (by kernel_rfl) (by kernel_rfl) (by kernel_rfl) (fun _ _ _ h => h) rfl (by rfl) hHeld ?_
            simp only [List.set_cons_zero, List.set_cons_succ]
            refine skip_at 17 81 rfl (by kernel_rfl) (by kernel_rfl) (by kernel_rfl) (fun _ _ _ h => h) rfl (by rfl) hHeld ?_
            simp only [List.set_cons_zero, List.set_cons_succ]
            refine skip_at 18 82 rfl (by kernel_rfl) (by kernel_rfl) (by kernel_rfl) (fun _ _ _ h => h) rfl (by rfl) hHeld ?_
            simp only [List.set_cons_zero, List.set_cons_succ]
            refine skip_at 19 83 rfl (by kernel_rfl) (by kernel_rfl) (by kernel_rfl) (fun _ _ _ h => h) rfl (by rfl) hHeld ?_
            simp only [List.set_cons_zero, List.set_cons_succ]
            refine skip_at 20 84 rfl (by kernel_rfl) (by kernel_rfl) (by kernel_rfl) (fun _ _ _ h => h) rfl (by rfl) hHeld ?_
            simp only [List.set_cons_zero, List.set_cons_succ]
            refine wpAnyH_ready (rs := [21]) (by kernel_rfl) (by simp) ?_
            refine AllReadyH.cons rfl (fun K hK => ?_) AllReadyH.nil
            go_simp
            refine hK.out _ _ hHeld (fun hHeld => ?_)
            clear hK K
            try simp only [Act.put, List.setIfInBounds_toArray, List.set_cons_zero, List.set_cons_succ]
            refine wpAnyH_ready (rs := [22]) (by kernel_rfl) (by simp) ?_
            refine AllReadyH.cons rfl (fun K hK => ?_) AllReadyH.nil
            go_simp
            refine hK.out _ _ hHeld (fun hHeld => ?_)
            clear hK K
            try simp only [Act.put, List.setIfInBounds_toArray, List.set_cons_zero, List.set_cons_succ]
            refine wpAnyH_done (by kernel_rfl) ?_ _
            go_wp2
            go_meet
            case rel => exact ⟨false, rfl, lj_later HS.out hHeld.1.out, fun h => (by cases h), fun _ => HQ.out⟩
        case rest =>
          obtain ⟨w5, rfl⟩ : ∃ z, z = wc := ⟨_, rfl⟩
          obtain ⟨b, rfl, HQ0⟩ := hcut
          clear t8 HS HT0
          cases b with
          | true =>
            have hil := (HQ0.out.2.1 rfl).1
            have HN : Hid ((i + 1) + pastL et en (c.elems.drop (i + 1)) = T) := (HQ0.out.2.1 rfl).2
            go_wp2
            go_roundg (gk - 1)
            case measure => omega
            case rel => exact ⟨i + 1, by omega, by go_num, HQ0.out.1, HN.out⟩
          | false =>
            have hTi := HQ0.out.2.2 rfl
            have HQ : Hid (SetI w h c p ⟨en, es, et, ev, false⟩ (d1, d2) w5) := HQ0.out.1.1
            have HL2 : putX c.elems i ⟨en, es, et, ev, false⟩ = L := hTi ▸ HL.out
            have hkn : i ≤ c.elems.length := by omega
            clear HQ0 hTi HL HK
            have HB : Hid (putX c.elems i ⟨en, es, et, ev, false⟩ = L) := HL2
            have HE0 : Hid (SetI w h c p ⟨en, es, et, ev, false⟩ (d1, d2) w5) := HQ.out
            have t8 := HE0.out.2.1.at 8 rfl
            obtain ⟨n1, hn1⟩ : ∃ n, w5.heap.size = n := ⟨_, rfl⟩
            have hn3 : h + 4 ≤ n1 := by have := HE0.out.size; omega
            have HRow : Hid (FRow w5 p.lo (flatL c.elems)) := (HR.out.1.later (HR.out.2.2.symm ▸ HE0.out.1)).2.1
            have HT : Hid (FRow (w5.alloc (.cells #[] 59)) p.lo (flatL (c.elems.take i))) := frow_takeL (HRow.out.later ((Below.refl _ _).alloc (Nat.le_refl _) _)) i
            have HO : Hid ((w5.alloc (.cells #[] 59)).ownsRow (h + 4) 59 5 (.slice (some ⟨n1, 0, none⟩) 0 0) 0 []) := own_mono (own_empty hn1) hn3
            have HA1 : Hid (Below w5.heap.size w5 (w5.alloc (.cells #[] 59)) ∧ h + 4 ≤ w5.heap.size) := ⟨(Below.refl _ _).alloc (Nat.le_refl _) _, by omega⟩
            have hlt8 : h < n1 := by omega
            go_upto_region 11 with fail
            go_cut [10] from 11 to 109 (fun s wx => ∃ (ao : Option Addr) (ca : Nat), s = .slice ao i ca ∧ Hid (Om w h c p ⟨en, es, et, ev, false⟩ (d1, d2) (c.elems.take i) ao ca wx))
            case first =>
              have hlk : (flatL (c.elems.take i)).length = i * 5 := by rw [flatL_len, List.length_take]; congr 1; omega
              cases hpe : p.lo with
              | none =>
                have HT2 : Hid (FRow (w5.alloc (.cells #[] 59)) none (flatL (c.elems.take i))) := hpe ▸ HT.out
                rw [hpe] at t8
                clear hpe
                go_wp2_with (first
                | (at_builtin
                   refine wpList_onto rfl _ _ 27 rfl Tryz.underlying27 Tryz.infoElem rfl (by decide) (by decide) (B := h + 4) rfl rfl HO.out HT2.out hlk (fun u hu => oneL hu) (by omega) (by simp [hn1]; omega) ?_
                   intro ao ca w2 o2 n2 b2
                   simp only [Nat.zero_add, List.nil_append] at o2 ⊢
                   have H2 : Hid (Om w h c p ⟨en, es, et, ev, false⟩ (d1, d2) (c.elems.take i) ao ca w2) := om_of HE0.out HA1.out.1 (by rw [List.length_take]; omega) o2 b2
                   clear o2 n2 b2))
                go_meet
                case rel => exact ⟨ao, ca, rfl, H2.out⟩
              | some a =>
                have HT2 : Hid (FRow (w5.alloc (.cells #[] 59)) (some a) (flatL (c.elems.take i))) := hpe ▸ HT.out
                rw [hpe] at t8
                clear hpe
                obtain ⟨ab, aoff, asp⟩ := a
                go_wp2_with (first
                | (at_builtin
                   refine wpList_onto rfl _ _ 27 rfl Tryz.underlying27 Tryz.infoElem rfl (by decide) (by decide) (B := h + 4) rfl rfl HO.out HT2.out hlk (fun u hu => oneL hu) (by omega) (by simp [hn1]; omega) ?_
                   intro ao ca w2 o2 n2 b2
                   simp only [Nat.zero_add, List.nil_append] at o2 ⊢
                   have H2 : Hid (Om w h c p ⟨en, es, et, ev, false⟩ (d1, d2) (c.elems.take i) ao ca w2) := om_of HE0.out HA1.out.1 (by rw [List.length_take]; omega) o2 b2
                   clear o2 n2 b2))
                go_meet
                case rel => exact ⟨ao, ca, rfl, H2.out⟩
            case rest =>
              obtain ⟨w2, rfl⟩ : ∃ z, z = wc := ⟨_, rfl⟩
              obtain ⟨ao, ca, rfl, HQ⟩ := hcut
              clear t8 HT HO HA1 hn1 hn3 hlt8 HRow HE0
              obtain ⟨r0, r1, r2, r3, r4⟩ := HQ.out.1.2.2.1.five
              obtain ⟨n2, hn2⟩ : ∃ n, w2.heap.size = n := ⟨_, rfl⟩
              have hl2 : h + 1 < n2 := by have := HQ.out.1.size; omega
              have hsz2 : h + 4 ≤ w2.heap.size := HQ.out.1.size
              have R2 : FRow (w2.alloc (.cells #[.int .i64 en, .int .i64 es, .int .i64 et, .string ev, .bool false] 59)) (some ⟨n2, 0, none⟩) [.int .i64 en, .int .i64 es, .int .i64 et, .string ev, .bool false] := frow_newAt hn2 [.int .i64 en, .int .i64 es, .int .i64 et, .string ev, .bool false] _
              have hok : w2.ownsRow (h + 4) 59 5 (.slice ao i ca) i (flatL (c.elems.take i)) := by
                have := HQ.out.2
                rw [List.length_take, Nat.min_eq_left hkn] at this
                exact this
              have HOK : Hid (w2.ownsRow (h + 4) 59 5 (.slice ao i ca) i (flatL (c.elems.take i))) := hok
              clear hok
              go_upto_region 13 with (first
                | (at_builtin
                   refine wpList_onto rfl _ _ 27 rfl Tryz.underlying27 Tryz.infoElem rfl (by decide) (by decide) (B := h + 4) rfl rfl (own_later HOK.out ((Below.refl _ _).alloc (Nat.le_refl _) _)) R2 rfl (fun u hu => oneL (l := [⟨en, es, et, ev, false⟩]) (by simpa [flatL] using hu)) (by omega) (by simp; omega) ?_
                   intro ao3 ca3 w3 o3 n3 b3
                   have H3 : Hid (Om w h c p ⟨en, es, et, ev, false⟩ (d1, d2) (c.elems.take i ++ [⟨en, es, et, ev, false⟩]) ao3 ca3 w3 ∧ w3.ownsRow (h + 4) 59 5 (.slice ao3 (i + 1) ca3) (i + 1) (flatL (c.elems.take i ++ [⟨en, es, et, ev, false⟩]))) := ⟨HQ.out.grown (m := [⟨en, es, et, ev, false⟩]) (k := 1) ((Below.refl _ _).alloc (Nat.le_refl _) _) hsz2 rfl (by rw [List.length_take, Nat.min_eq_left hkn]; exact o3) b3, by rw [flatL_append]; exact o3⟩
                   clear o3 n3 b3))
              clear R2 HOK HQ r0 r1 r2 r3 r4 hn2 hl2
              have HRow : Hid (FRow w3 p.lo (flatL c.elems)) := (HR.out.1.later (HR.out.2.2.symm ▸ H3.out.1.1.1)).2.1
              have t8 := H3.out.1.1.2.1.at 8 rfl
              have hsz3 : h + 4 ≤ w3.heap.size := H3.out.1.1.size
              have hld : (flatL (c.elems.drop i)).length = (c.elems.length - i) * 5 := by rw [flatL_len, List.length_drop]
              have hLl : L.length = c.elems.length + 1 := by rw [← HB.out]; exact putX_len _ hkn
              go_cut [10] from 11 to 109 (fun s wx => ∃ (ao : Option Addr) (ca : Nat), s = .slice ao L.length ca ∧ Hid (Om w h c p ⟨en, es, et, ev, false⟩ (d1, d2) L ao ca wx))
              case first =>
                by_cases hlt : i < c.elems.length
                · obtain ⟨bk, off, ea, hb, _⟩ := HRow.out (by rw [flatL_len]; omega)
                  have ROW : Hid (FRow w3 (some ⟨bk, off + i * 5, none⟩) (flatL (c.elems.drop i))) := frow_dropL (ea ▸ HRow.out) i
                  rw [ea] at t8
                  have hck : ¬ (p.lc = i) := by omega
                  clear ea hb HRow
                  go_wp2_with (first
                    | (at_builtin
                       refine wpList_onto rfl _ _ 27 rfl Tryz.underlying27 Tryz.infoElem rfl (by decide) (by decide) (B := h + 4) rfl rfl H3.out.2 ROW.out hld (fun u hu => oneL hu) (by omega) hsz3 ?_
                       intro ao4 ca4 w4 o4 n4 b4
                       have H4 : Hid (Om w h c p ⟨en, es, et, ev, false⟩ (d1, d2) L ao4 ca4 w4) := by
                         have := H3.out.1.grown (m := c.elems.drop i) (k := c.elems.length - i) (Below.refl _ _) hsz3 (by rw [List.length_drop]) (by rw [List.length_append, List.length_take, Nat.min_eq_left hkn]; exact o4) b4
                         rw [List.append_assoc] at this
                         exact HB.out ▸ this
                       clear o4 n4 b4))
                  go_meet
                  case rel => exact ⟨ao4, ca4, by congr 1; omega, H4.out⟩
                · have hnil : Hid (flatL (c.elems.drop i) = []) := by
                    show flatL (c.elems.drop i) = []
                    rw [List.drop_eq_nil_of_le (by omega)]; rfl
                  have hld0 : (flatL (c.elems.drop i)).length = 0 * 5 := by rw [hnil.out]; rfl
                  have hz0 : c.elems.length - i = 0 := by omega
                  have hdl : Hid ((c.elems.drop i).length = 0) := by show (c.elems.drop i).length = 0; rw [List.length_drop]; omega
                  clear HRow
                  cases hpe : p.lo with
                  | none =>
                    rw [hpe] at t8
                    clear hpe
                    by_cases hck : p.lc = i
                    · go_wp2_with (first
                        | (at_builtin
                           refine wpList_onto rfl _ _ 27 rfl Tryz.underlying27 Tryz.infoElem rfl (by decide) (by decide) (B := h + 4) rfl rfl H3.out.2 (frow_nilL hnil.out) hld0 (fun u hu => oneL hu) (by omega) hsz3 ?_
                           intro ao4 ca4 w4 o4 n4 b4
                           have H4 : Hid (Om w h c p ⟨en, es, et, ev, false⟩ (d1, d2) L ao4 ca4 w4) := by
                             have := H3.out.1.grown (m := c.elems.drop i) (k := 0) (Below.refl _ _) hsz3 hdl.out.symm (by rw [List.length_append, List.length_take, Nat.min_eq_left hkn]; exact o4) b4
                             rw [List.append_assoc] at this
                             exact HB.out ▸ this
                           clear o4 n4 b4))
                      go_meet
                      case rel => exact ⟨ao4, ca4, by congr 1; omega, H4.out⟩
                    · go_wp2_with (first
                        | (at_builtin
                           refine wpList_onto rfl _ _ 27 rfl Tryz.underlying27 Tryz.infoElem rfl (by decide) (by decide) (B := h + 4) rfl rfl H3.out.2 (frow_nilL hnil.out) hld0 (fun u hu => oneL hu) (by omega) hsz3 ?_
                           intro ao4 ca4 w4 o4 n4 b4
                           have H4 : Hid (Om w h c p ⟨en, es, et, ev, false⟩ (d1, d2) L ao4 ca4 w4) := by
                             have := H3.out.1.grown (m := c.elems.drop i) (k := 0) (Below.refl _ _) hsz3 hdl.out.symm (by rw [List.length_append, List.length_take, Nat.min_eq_left hkn]; exact o4) b4
                             rw [List.append_assoc] at this
                             exact HB.out ▸ this
                           clear o4 n4 b4))
                      go_meet
                      case rel => exact ⟨ao4, ca4, by congr 1; omega, H4.out⟩
                  | some ad =>
                    rw [hpe] at t8
                    clear hpe
                    obtain ⟨ab, aoff, asp⟩ := ad
                    by_cases hck : p.lc = i
                    · go_wp2_with (first
                        | (at_builtin
                           refine wpList_onto rfl _ _ 27 rfl Tryz.underlying27 Tryz.infoElem rfl (by decide) (by decide) (B := h + 4) rfl rfl H3.out.2 (frow_nilL hnil.out) hld0 (fun u hu => oneL hu) (by omega) hsz3 ?_
                           intro ao4 ca4 w4 o4 n4 b4
                           have H4 : Hid (Om w h c p ⟨en, es, et, ev, false⟩ (d1, d2) L ao4 ca4 w4) := by
                             have := H3.out.1.grown (m := c.elems.drop i) (k := 0) (Below.refl _ _) hsz3 hdl.out.symm (by rw [List.length_append, List.length_take, Nat.min_eq_left hkn]; exact o4) b4
                             rw [List.append_assoc] at this
                             exact HB.out ▸ this
                           clear o4 n4 b4))
                      go_meet
                      case rel => exact ⟨ao4, ca4, by congr 1; omega, H4.out⟩
                    · go_wp2_with (first
                        | (at_builtin
                           refine wpList_onto rfl _ _ 27 rfl Tryz.underlying27 Tryz.infoElem rfl (by decide) (by decide) (B := h + 4) rfl rfl H3.out.2 (frow_nilL hnil.out) hld0 (fun u hu => oneL hu) (by omega) hsz3 ?_
                           intro ao4 ca4 w4 o4 n4 b4
                           have H4 : Hid (Om w h c p ⟨en, es, et, ev, false⟩ (d1, d2) L ao4 ca4 w4) := by
                             have := H3.out.1.grown (m := c.elems.drop i) (k := 0) (Below.refl _ _) hsz3 hdl.out.symm (by rw [List.length_append, List.length_take, Nat.min_eq_left hkn]; exact o4) b4
                             rw [List.append_assoc] at this
                             exact HB.out ▸ this
                           clear o4 n4 b4))
                      go_meet
                      case rel => exact ⟨ao4, ca4, by congr 1; omega, H4.out⟩
              case rest =>
                obtain ⟨wr4, rfl⟩ : ∃ z, z = wc := ⟨_, rfl⟩
                obtain ⟨ao4, ca4, rfl, HE⟩ := hcut
                clear t8 HRow H3 hsz3 hld hLl
                have hsz : h + 4 ≤ wr4.heap.size := HE.out.1.size
                obtain ⟨t0, t1, t2, t3, t4, t5, t6, t7, t8, t9⟩ := HE.out.1.2.1.ten
                go_wp2_with fail
                refine (rcopy_any c p _ (HR.out.1.later (HR.out.2.2.symm ▸ HE.out.1.1)) HR.out.2.1).mono ?_
                rintro e wz ⟨q, rfl, o2, b2⟩
                have HP : Hid (CpIA w h c q L ao4 ca4 (put10 wz h (.int .i64 c.kind) (.bool c.set) (.int .i64 c.time) (.int .i64 c.node) (.string c.val) (.int .i64 c.re) (.int .i64 c.im) (.slice q.eo c.ents.length q.ec) (.slice q.lo c.elems.length q.lc) (.slice q.so c.seen.length q.sc))) := cpI_ofA HE.out hsz o2 b2
                have H2 := HE.out.1.2.1.later b2
                clear t0 t1 t2 t3 t4 t5 t6 t7 t8 t9 o2 b2 HE
                obtain ⟨t0, t1, t2, t3, t4, t5, t6, t7, t8, t9⟩ := H2.ten
                obtain ⟨f0, f1, f2, f3, f4, f5, f6, f7, f8, f9⟩ := H2.tenf
                clear H2
                go_upto_region 15 with fail
                dsimp only [put10] at HP
                clear t0 t1 t2 t3 t4 t5 t6 t7 t8 t9 f0 f1 f2 f3 f4 f5 f6 f7 f8 f9
                generalize hW : World.setCell _ (⟨h, 9, none⟩ : Addr) _ = w6 at HP ⊢
                clear hW
                obtain ⟨t0, t1, t2, t3, t4, t5, t6, t7, t8, t9⟩ := HP.out.2.1.ten
                have f8 := HP.out.2.1.free 8 rfl
                obtain ⟨s0, s1, s2, s3, s4, s5, s6, s7, s8, s9⟩ := HP.out.2.2.1.ten
                obtain ⟨z0, z1, z2, z3, z4, z5, z6, z7, z8, z9⟩ := HP.out.2.2.1.tenf
                have HZ := HP.out.set (.slice ao4 L.length ca4)
                have HZ' : Hid _ := HZ
                clear HZ
                go_wp2_with fail
                exact rendA (d := cL c L) (q := ⟨q.eo, q.ec, ao4, ca4, q.so, q.sc⟩) (a := h + 3) (B := h + 4) (r := 6) HZ'.out.1 HZ'.out.2.1 HZ'.out.2.2 (by omega) (by omega) rfl rfl rfl rfl

end Go.Proofs.YtgkddimijmnpcaaGreatDoor

