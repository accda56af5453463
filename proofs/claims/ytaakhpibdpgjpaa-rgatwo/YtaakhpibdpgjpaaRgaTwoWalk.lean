/-
  The walk of the law RgaTwo: what two write at one time behind one element.
-/
import Derived.Test.YtaakhpibdpgjpaaWr10
import Derived.Test.YtaakhpibdpgjpaaMasks
namespace Go.Proofs.Ytaakhpibdpgjpaa.RgaTwo
open Go.RowKit Go.Shelf
set_option linter.unusedVariables false
set_option linter.unusedSimpArgs false

abbrev bsL (i : Nat) : List L5 := base3.take i
def lastD (i : Nat) : D2 := if i = 0 then (0, 0) else (2, (i : Int))
theorem bs_step : ∀ i : Nat, i < 3 → okX (bsL i) ⟨2, (i : Int) + 1, (i : Int) + 1, cX, false⟩ = true ∧ insL (bsL i) ⟨2, (i : Int) + 1, (i : Int) + 1, cX, false⟩ (lastD i) = some (bsL (i + 1)) ∧ SmallX (bsL i) ∧ (bsL i).length = i ∧ (bsL (i + 1)).length = i + 1 := by
  intro i hi
  match i, hi with
  | 0, _ => exact ⟨by decide +kernel, eqXs_some (by decide +kernel), smallX_aw (by decide) (by decide +kernel), rfl, rfl⟩
  | 1, _ => exact ⟨by decide +kernel, eqXs_some (by decide +kernel), smallX_aw (by decide) (by decide +kernel), rfl, rfl⟩
  | 2, _ => exact ⟨by decide +kernel, eqXs_some (by decide +kernel), smallX_aw (by decide) (by decide +kernel), rfl, rfl⟩
theorem small_base : SmallX base3 := smallX_aw (by decide) (by decide +kernel)

/-- What the first loop keeps. -/
def Tw (w : World) (h g i : Nat) (q : Pl) (d1 d2 : Int) (wr : World) : Prop := Regs h w wr [(g, llL i q), (g + 1, [.int .i64 d1, .int .i64 d2])] ∧ FOwn (g + 2) wr q.lo (flatL (bsL i)) ∧ (d1, d2) = lastD i

theorem runL_len {v : ByteArray} {node : Int} : ∀ {m i : Nat} {d : D2} {l L : List L5}, runL v node m i d l = some L → L.length = l.length + m
  | 0, i, d, l, L, h => by simp [runL] at h; subst h; rfl
  | m + 1, i, d, l, L, h => by
    obtain ⟨_, l', h1, h2⟩ := runL_step h
    rw [runL_len h2, insL_len h1]
    omega
theorem two_want (A j k : Nat) (h1 : A < 4) (h2 : j < 5) (h3 : k < 5) (S : ByteArray) (hS : S.data.toList = wantX A j k) : (S.toList == ((⟨#[120, 120, 120]⟩ : ByteArray).extract 0 A ++ (⟨#[49, 49, 49, 49]⟩ : ByteArray).extract 0 k ++ (⟨#[48, 48, 48, 48]⟩ : ByteArray).extract 0 j ++ (⟨#[120, 120, 120]⟩ : ByteArray).extract A 3).toList) = true := by
  have h : ∀ (A : Fin 4) (j k : Fin 5), (((⟨(wantX A.val j.val k.val).toArray⟩ : ByteArray)).data.toList == ((⟨#[120, 120, 120]⟩ : ByteArray).extract 0 A.val ++ (⟨#[49, 49, 49, 49]⟩ : ByteArray).extract 0 k.val ++ (⟨#[48, 48, 48, 48]⟩ : ByteArray).extract 0 j.val ++ (⟨#[120, 120, 120]⟩ : ByteArray).extract A.val 3).data.toList) = true := by decide +kernel
  have e : S = (⟨(wantX A j k).toArray⟩ : ByteArray) := by
    apply ByteArray.ext
    rw [← hS]
  have := h ⟨A, h1⟩ ⟨j, h2⟩ ⟨k, h3⟩
  have e2 : (⟨(wantX A j k).toArray⟩ : ByteArray) = (⟨#[120, 120, 120]⟩ : ByteArray).extract 0 A ++ (⟨#[49, 49, 49, 49]⟩ : ByteArray).extract 0 k ++ (⟨#[48, 48, 48, 48]⟩ : ByteArray).extract 0 j ++ (⟨#[120, 120, 120]⟩ : ByteArray).extract A 3 := by
    apply ByteArray.ext
    have h4 := eq_of_beq this
    exact Array.toList_inj.1 h4
  rw [e, ← e2]
  exact beq_self_eq_true _
theorem dec0 : (⟨(Lib.decDigits 0).toArray⟩ : ByteArray) = c0 := by
  have : Lib.decDigits 0 = [48] := by decide +kernel
  rw [this]
theorem dec1 : (⟨(Lib.decDigits 1).toArray⟩ : ByteArray) = c1 := by
  have : Lib.decDigits 1 = [49] := by decide +kernel
  rw [this]
theorem writes0 {l : List L5} (j n : Nat) (q : Pl) (d : D2) (L : List L5) (n' : Nat) (w : World) (hr : FRow w q.lo (flatL l)) (hn : n = l.length) (hs : SmallX l) (hlen : l.length + j ≤ 40) (hL : runL c0 0 j 1 d l = some L) (hn' : n' = L.length) :
    Calls Try.prog 26 #[llV n q, .int .i64 0, .int .i64 (j : Nat), dv d] w fun e w' => ∃ q', e = .returned (.tuple #[llV n' q', .bool true]) ∧ FRow w' q'.lo (flatL L) ∧ SmallX L ∧ Below w.heap.size w w' :=
  writes_any 0 j n q l d c0 L n' w hr hn hs hlen (by omega) dec0 (by decide) hL hn'
theorem writes1 {l : List L5} (j n : Nat) (q : Pl) (d : D2) (L : List L5) (n' : Nat) (w : World) (hr : FRow w q.lo (flatL l)) (hn : n = l.length) (hs : SmallX l) (hlen : l.length + j ≤ 40) (hL : runL c1 1 j 1 d l = some L) (hn' : n' = L.length) :
    Calls Try.prog 26 #[llV n q, .int .i64 1, .int .i64 (j : Nat), dv d] w fun e w' => ∃ q', e = .returned (.tuple #[llV n' q', .bool true]) ∧ FRow w' q'.lo (flatL L) ∧ SmallX L ∧ Below w.heap.size w w' :=
  writes_any 1 j n q l d c1 L n' w hr hn hs hlen (by omega) dec1 (by decide) hL hn'
theorem samesL (l : List L5) (n : Nat) (q p : Pl) (w : World) (hn : n = l.length) (hq : FRow w q.lo (flatL l)) (hp : FRow w p.lo (flatL l)) (hs : SmallX l) :
    Calls Try.prog 20 #[llV n q, llV n p] w fun e w' => e = .returned (.bool true) ∧ Below w.heap.size w w' := by
  subst hn
  exact sameCell_any (lcE l) q p w (lc_row hq) (lc_row hp) hs.fit

set_option maxHeartbeats 8000000 in
set_option maxRecDepth 100000 in
theorem walk (a b at0 : Int) (w : World) (_ : (Lit.int .i64 a).wf = true) (_ : (Lit.int .i64 b).wf = true) (_ : (Lit.int .i64 at0).wf = true) :
    Calls Try.prog 4 #[.int .i64 a, .int .i64 b, .int .i64 at0] w fun e w' => e = .returned (.bool true) ∧ Below w.heap.size w w' := by
  obtain ⟨ja, hja, eja⟩ : ∃ z : Nat, z < 4 ∧ bits .and .i64 a 3 = (z : Int) := and_mask a 2 (by omega)
  obtain ⟨kb, hkb, ekb⟩ : ∃ z : Nat, z < 4 ∧ bits .and .i64 b 3 = (z : Int) := and_mask b 2 (by omega)
  obtain ⟨A, hA, eA⟩ : ∃ z : Nat, z < 4 ∧ bits .and .i64 at0 3 = (z : Int) := and_mask at0 2 (by omega)
  obtain ⟨X, Y, Z, hX, hY, hZ, hW, hJ⟩ := two_yes A ja kb hA hja hkb
  obtain ⟨j, hj⟩ : ∃ j, 1 + ja = j := ⟨_, rfl⟩
  obtain ⟨k, hk⟩ : ∃ k, 1 + kb = k := ⟨_, rfl⟩
  have ej : (1 : Int) + (ja : Int) = (j : Int) := by omega
  have ek : (1 : Int) + (kb : Int) = (k : Int) := by omega
  have hj4 : j ≤ 4 := by omega
  have hk4 : k ≤ 4 := by omega
  rw [hj] at hX hW hJ
  rw [hk] at hY hZ hJ
  have HT : Hid (runL c0 0 j 1 (refN A) base3 = some X ∧ runL c1 1 k 1 (refN A) X = some Y ∧ runL c1 1 k 1 (refN A) base3 = some Z ∧ runL c0 0 j 1 (refN A) Z = some Y ∧ joinX Y = wantX A j k) := ⟨hX, hY, hZ, hW, hJ⟩
  clear hX hY hZ hW hJ hj hk
  obtain ⟨h, hh⟩ : ∃ h, w.heap.size = h := ⟨_, rfl⟩
  rw [hh]
  go_enter Try.func4, Try.ntmps4
  go_wp2_with fail
  refine (awake10_any _).mono ?_
  rintro e w1 ⟨rfl, b1⟩
  obtain ⟨g, hg⟩ : ∃ g, w1.heap.size = g := ⟨_, rfl⟩
  have HG : Hid (h ≤ g ∧ w.heap.size = h) := ⟨by have := b1.size; omega, hh⟩
  have L0 : Hid (∃ q, Tw w h g 0 q 0 0 ((w1.alloc (.cells (zl 3).toArray 30)).alloc (.cells [.int .i64 0, .int .i64 0].toArray 32))) := by
    have R : Regs h w w1 [] := ⟨hh ▸ b1, by have := b1.size; omega⟩
    have R2 := Regs.push (Regs.push R hg (zl 3) 30) (g := g + 1) (by simp [hg]) [.int .i64 0, .int .i64 0] 32
    exact ⟨pl0, ⟨R2.2.1, R2.1, R2.2.2⟩, FOwn.nil _ _ _, rfl⟩
  clear b1 hh
  go_wp2_with fail
  generalize hW : (w1.alloc (.cells (zl 3).toArray 30)).alloc (.cells [.int .i64 0, .int .i64 0].toArray 32) = w2 at L0 ⊢
  clear hW hg
  go_loopg [9, 10, 11] 3 (fun m s9 _ _ wr => ∃ (i : Nat) (q : Pl) (z d1 d2 : Int), i + m = 3 ∧ s9 = .int .i64 z ∧ (i < 3 → z ≤ 3) ∧ (¬ i < 3 → 3 < z) ∧ Hid (Tw w h g i q d1 d2 wr ∧ z = (i : Int) + 1))
  case atStart =>
    obtain ⟨q, hq⟩ := L0.out
    exact ⟨0, q, 1, 0, 0, by omega, rfl, by omega, by omega, hq, rfl⟩
  case round =>
    clear L0
    obtain ⟨i, q, z, d1, d2, him, rfl, hz3, hz4, HS0⟩ := hrel
    have HS : Hid (Tw w h g i q d1 d2 wr) := HS0.out.1
    have HZ : Hid (z = (i : Int) + 1) := HS0.out.2
    clear HS0
    by_cases hi : i < 3
    · have hz3 : z ≤ 3 := hz3 hi
      have hz1 : 1 ≤ z := by have := HZ.out; omega
      clear hz4
      have hd0 : decide (z ≤ 3) = true := by simpa using hz3
      have HX : Hid (okX (bsL i) ⟨2, z, z, cX, false⟩ = true ∧ insL (bsL i) ⟨2, z, z, cX, false⟩ (d1, d2) = some (bsL (i + 1)) ∧ SmallX (bsL i) ∧ (bsL i).length = i ∧ (bsL (i + 1)).length = i + 1) := by
        rw [HZ.out, HS.out.2.2]
        exact bs_step i hi
      obtain ⟨B, hB⟩ : ∃ B, wr.heap.size = B := ⟨_, rfl⟩
      have hgB : g + 1 < B := by rw [← hB]; exact HS.out.1.2.1.1
      have HSr : Hid (SrcL wr B g i q (bsL i) (g + 1) 0 (.int .i64 d1) (g + 1) 1 (.int .i64 d2)) := ⟨hB, HS.out.1.1, HS.out.2.1.row, hgB, HS.out.1.2.1.at 0 rfl, hgB, HS.out.1.2.1.at 1 rfl⟩
      have HB : Hid (wr.heap.size = B) := hB
      have HW : Hid (Regs h w wr [(g, llL i q), (g + 1, [.int .i64 d1, .int .i64 d2])]) := HS.out.1
      have hz0 : B ≤ wr.heap.size := by omega
      have hzd : B ≤ wr.drew.heap.size := hz0
      clear hB HS
      go_upto_region 8 with fail
      go_cut [10, 11] from 38 to 46 (fun p e wx => ∃ (kc : Nat) (q' : Pl), p = .pointer (some ⟨kc, 0, none⟩) ∧ e = .int .i64 0 ∧ Hid (EndL wr B (i + 1) (bsL (i + 1)) kc q' wx))
      case first =>
        go_region_held3 (HeldL wr B g i q (g + 1) 0 (.int .i64 d1) (g + 1) 1 (.int .i64 d2)) (first | (with_reducible apply heldL_later HSr.out hb2; assumption) | with_reducible apply heldL_put HSr.out T6 (by assumption) | (with_reducible apply heldL_swap HSr.out (by omega) (by assumption)) | (with_reducible exact heldL_drew HSr.out) | (with_reducible exact heldL_first HSr.out _) | (with_reducible apply heldL_alloc HSr.out _ (by assumption)))
          (first
            | (go_at_call 25; with_reducible refine (elem_any _ _ _ _ _).mono ?_; rintro r w3 ⟨rfl, hb2⟩; have hz := hb2.size; first | (with_reducible have T6 := nineT_newd (B := B) (by omega) hb2; obtain ⟨y0, y1, y2, y3, y4, y5, y6, y7, y8, y9⟩ := nineT_ten T6; obtain ⟨z0, z1, z2, z3, z4, z5, z6, z7, z8, z9⟩ := nineT_tenf T6) | (with_reducible have T6 := nineT_new (B := B) (by omega) hb2; obtain ⟨y0, y1, y2, y3, y4, y5, y6, y7, y8, y9⟩ := nineT_ten T6; obtain ⟨z0, z1, z2, z3, z4, z5, z6, z7, z8, z9⟩ := nineT_tenf T6) | (with_reducible replace T6 := nineT_later T6 hb2; obtain ⟨y0, y1, y2, y3, y4, y5, y6, y7, y8, y9⟩ := nineT_ten T6; obtain ⟨z0, z1, z2, z3, z4, z5, z6, z7, z8, z9⟩ := nineT_tenf T6) | skip)
            | (go_at_call 10; with_reducible refine (ins_atL (e := ⟨2, z, z, cX, false⟩) (d := (d1, d2)) (m := bsL (i + 1)) (n' := i + 1) HSr.out (by assumption) HX.out.2.2.2.1.symm HX.out.2.2.1 HX.out.1 HX.out.2.1 HX.out.2.2.2.2.symm).mono ?_; rintro r w3 ⟨q', rfl, O3, hC3, hb2⟩; have hz := hb2.size; first | (with_reducible have T6 := nineT_newd (B := B) (by omega) hb2; obtain ⟨y0, y1, y2, y3, y4, y5, y6, y7, y8, y9⟩ := nineT_ten T6; obtain ⟨z0, z1, z2, z3, z4, z5, z6, z7, z8, z9⟩ := nineT_tenf T6) | (with_reducible have T6 := nineT_new (B := B) (by omega) hb2; obtain ⟨y0, y1, y2, y3, y4, y5, y6, y7, y8, y9⟩ := nineT_ten T6; obtain ⟨z0, z1, z2, z3, z4, z5, z6, z7, z8, z9⟩ := nineT_tenf T6) | (with_reducible replace T6 := nineT_later T6 hb2; obtain ⟨y0, y1, y2, y3, y4, y5, y6, y7, y8, y9⟩ := nineT_ten T6; obtain ⟨z0, z1, z2, z3, z4, z5, z6, z7, z8, z9⟩ := nineT_tenf T6) | skip))
        all_goals
          (go_wp2_with fail
           go_meet
           case rel =>
             (first
               | (have E7 := endL_put (w1 := wr) (l' := bsL (i + 1)) T6 O3 (by assumption); exact ⟨_, q', rfl, rfl, E7⟩)
               | (have E7 := endL_new (w1 := wr) (W := w3) (B := B) (l' := bsL (i + 1)) 30 hC3 (by omega) O3 (by assumption); exact ⟨_, q', rfl, rfl, E7⟩)))
      case rest =>
        obtain ⟨w3, rfl⟩ : ∃ z, z = wc := ⟨_, rfl⟩
        obtain ⟨kc, q', rfl, rfl, HE⟩ := hcut
        have H3 : Hid (g + 2 ≤ B ∧ B ≤ kc ∧ Has w3 kc (llL (i + 1) q') ∧ Has w3 g (llL i q) ∧ Has w3 (g + 1) [.int .i64 d1, .int .i64 d2] ∧ FOwn B w3 q'.lo (flatL (bsL (i + 1))) ∧ Below h w w3) := by
          have hb := HE.out.2.2.2
          have K := HW.out.fit HB.out hb
          exact ⟨by omega, HE.out.1, HE.out.2.1, K.1, K.2.1, HE.out.2.2.1, K.base.1⟩
        have hkc : g + 1 < kc := by have := H3.out.2.1; omega
        clear HSr HB HE HW hz0 hzd hgB
        obtain ⟨t0, t1, t2, t3, t4, t5, t6, t7, t8, t9⟩ := H3.out.2.2.1.ten
        obtain ⟨y0, y1, y2, y3, y4, y5, y6, y7, y8, y9⟩ := H3.out.2.2.2.1.ten
        obtain ⟨z0, z1, z2, z3, z4, z5, z6, z7, z8, z9⟩ := H3.out.2.2.2.1.tenf
        have H4 : Hid (Regs h w (put10 w3 g (.int .i64 3) (.bool false) (.int .i64 0) (.int .i64 0) (.string ⟨#[]⟩) (.int .i64 0) (.int .i64 0) (.slice q'.eo 0 q'.ec) (.slice q'.lo (i + 1) q'.lc) (.slice q'.so 0 q'.sc)) [(g, llL (i + 1) q'), (g + 1, [.int .i64 d1, .int .i64 d2])] ∧ FOwn (g + 2) (put10 w3 g (.int .i64 3) (.bool false) (.int .i64 0) (.int .i64 0) (.string ⟨#[]⟩) (.int .i64 0) (.int .i64 0) (.slice q'.eo 0 q'.ec) (.slice q'.lo (i + 1) q'.lc) (.slice q'.so 0 q'.sc)) q'.lo (flatL (bsL (i + 1)))) := by
          obtain ⟨h1, h2, h3, h4, h5, h7, h8⟩ := H3.out
          have K := roundL (L := [(g + 1, [.int .i64 d1, .int .i64 d2])]) (n' := i + 1) (q' := q') h4 ⟨h5, h8, by have := h3.1; have := HG.out.1; omega⟩ h7 HG.out.1 (by omega) (fun e he => by
            simp only [List.mem_cons, List.not_mem_nil, or_false] at he
            subst he
            show g + 1 ≠ g; omega)
          exact ⟨K.1, (h7.put10 (by omega) _ _ _ _ _ _ _ _ _ _).mono h1⟩
        go_upto_region 12 with (go_at_call 21; refine (num_any _ _).mono ?_; rintro e w0 ⟨rfl, hw0⟩; have hw1 := hw0.symm; clear hw0; subst hw1)
        dsimp only [put10] at H4
        clear t0 t1 t2 t3 t4 t5 t6 t7 t8 t9 y0 y1 y2 y3 y4 y5 y6 y7 y8 y9 z0 z1 z2 z3 z4 z5 z6 z7 z8 z9
        generalize hW : World.setCell _ (⟨g, 9, none⟩ : Addr) _ = w4 at H4 ⊢
        clear hW H3
        obtain ⟨r0, r1⟩ := H4.out.1.2.1.two
        have f0 := H4.out.1.2.1.free 0 rfl
        have f1 := H4.out.1.2.1.free 1 rfl
        have H5 : Hid (Tw w h g (i + 1) q' 2 z ((w4.setCell ⟨g + 1, 0, none⟩ (.int .i64 2)).setCell ⟨g + 1, 1, none⟩ (.int .i64 z))) := by
          obtain ⟨⟨h1, h2, h4, h5⟩, h6⟩ := H4.out
          refine ⟨⟨(h1.other (by omega) _ _).other (by omega) _ _, (h2.put 0 _).put 1 _, (h4.setCell (p := ⟨g + 1, 0, none⟩) (by have := HG.out.1; show h ≤ g + 1; omega) _).setCell (p := ⟨g + 1, 1, none⟩) (by have := HG.out.1; show h ≤ g + 1; omega) _, by simpa using h5⟩, (h6.off (by omega) _ _).off (by omega) _ _, ?_⟩
          show (2, z) = lastD (i + 1)
          unfold lastD
          rw [if_neg (by omega), HZ.out]
          rfl
        clear H4
        go_wp2
        go_roundg (gk - 1)
        case measure => omega
        case rel => exact ⟨i + 1, q', z + 1, 2, z, by omega, by go_num, fun h3 => by have := HZ.out; omega, fun h3 => by have := HZ.out; omega, H5.out, by rw [HZ.out]; simp⟩
    · obtain rfl : i = 3 := by omega
      have hz5 : 3 < z := hz4 (by omega)
      have hd0 : decide (z ≤ 3) = false := by simp; omega
      clear hz3 hz4
      have H6 : Hid (Regs h w wr [(g, llL 3 q)] ∧ FRow wr q.lo (flatL base3)) := ⟨⟨HS.out.1.1, HS.out.1.2.2⟩, HS.out.2.1.row⟩
      clear HS
      obtain ⟨kr, hkr⟩ : ∃ k, wr.heap.size = k := ⟨_, rfl⟩
      have lkr : g < kr := by have := H6.out.1.1.1; omega
      obtain ⟨f1, f2, hf⟩ : ∃ f1 f2, refN A = (f1, f2) := ⟨_, _, rfl⟩
      rw [hf] at HT
      have H7 : Hid (∀ W, Below kr wr W → kr < W.heap.size → Has W kr [.int .i64 f1, .int .i64 f2] → Regs h w W [(kr, [.int .i64 f1, .int .i64 f2]), (g, llL 3 q)] ∧ FRow W q.lo (flatL base3)) := fun W hb hs hk => ⟨⟨hk, H6.out.1.fit hkr hb⟩, H6.out.2.later (hkr.symm ▸ hb)⟩
      have HN : Hid (Below kr wr (wr.alloc (.cells [.int .i64 0, .int .i64 0].toArray 32)) ∧ Has (wr.alloc (.cells [.int .i64 0, .int .i64 0].toArray 32)) kr [.int .i64 0, .int .i64 0]) := ⟨(Below.refl _ _).alloc (Nat.le_of_eq hkr.symm) _, hkr ▸ has_new _ _ _⟩
      go_upto_region 14 with fail
      generalize hW : wr.alloc (.cells [.int .i64 0, .int .i64 0].toArray 32) = w5 at HN ⊢
      clear hW hkr
      by_cases hA0 : A = 0
      · have h0 : f1 = 0 ∧ f2 = 0 := by
          unfold refN at hf
          rw [if_pos hA0] at hf
          simp only [Prod.mk.injEq] at hf
          exact ⟨hf.1.symm, hf.2.symm⟩
        have hpos : decide ((0 : Int) < (A : Int)) = false := by simp; omega
        have hpos2 : ¬ (0 : Int) < (A : Int) := by omega
        clear hA0
        obtain ⟨rfl, rfl⟩ := h0
        have G00 : Hid (Regs h w w5 [(kr, [.int .i64 0, .int .i64 0]), (g, llL 3 q)] ∧ Rws w5 [(q.lo, flatL base3)]) := ⟨(H7.out _ HN.out.1 HN.out.2.1 HN.out.2).1, (H7.out _ HN.out.1 HN.out.2.1 HN.out.2).2, trivial⟩
        clear H6 H7 HN hf
        go_upto_region 16 with fail
        obtain ⟨v0, hv0⟩ : ∃ v0, v0 = w5 := ⟨_, rfl⟩
        have G0 : Hid (Regs h w v0 [(kr, [.int .i64 0, .int .i64 0]), (g, llL 3 q)] ∧ Rws v0 [(q.lo, flatL base3)]) := hv0 ▸ G00.out
        rw [← hv0]
        clear G00 hv0
        obtain ⟨nX, enX⟩ : ∃ n, X.length = n := ⟨_, rfl⟩
        obtain ⟨nY, enY⟩ : ∃ n, Y.length = n := ⟨_, rfl⟩
        obtain ⟨nZ, enZ⟩ : ∃ n, Z.length = n := ⟨_, rfl⟩
        have HE : Hid (nX = X.length ∧ nY = Y.length ∧ nZ = Z.length ∧ X.length ≤ 12 ∧ Z.length ≤ 12) := ⟨enX.symm, enY.symm, enZ.symm, by have := runL_len HT.out.1; have : base3.length = 3 := rfl; omega, by have := runL_len HT.out.2.2.1; have : base3.length = 3 := rfl; omega⟩
        clear enX enY enZ
        obtain ⟨t0, t1, t2, t3, t4, t5, t6, t7, t8, t9⟩ := (show Has _ g (llL 3 q) from G0.out.1.2.1).ten
        obtain ⟨r0, r1⟩ := (show Has _ kr [.int .i64 0, .int .i64 0] from G0.out.1.1).two
        go_wp2_with fail
        refine (writes0 j 3 q (0, 0) X nX _ (G0.out.2.1) rfl small_base (by have : base3.length = 3 := rfl; omega) HT.out.1 HE.out.1).mono ?_
        rintro e x0 ⟨qx, rfl, o0, SMkx, b0⟩
        obtain ⟨kx, ekx⟩ : ∃ k, x0.heap.size = k := ⟨_, rfl⟩
        have SXkx : Hid (SmallX X) := SMkx
        have lkx : kr < kx := by rw [← ekx]; exact (G0.out.1.later b0).1.1
        have G1 : Hid (Regs h w (x0.alloc (.cells (llL nX qx).toArray 30)) [(kx, llL nX qx), (kr, [.int .i64 0, .int .i64 0]), (g, llL 3 q)] ∧ Rws (x0.alloc (.cells (llL nX qx).toArray 30)) [(qx.lo, flatL X), (q.lo, flatL base3)]) := by
          have hal : Below x0.heap.size x0 (x0.alloc (.cells (llL nX qx).toArray 30)) := (Below.refl _ _).alloc (Nat.le_refl _) _
          exact ⟨Regs.push (G0.out.1.later b0) ekx _ _, o0.later hal, (G0.out.2.later b0).later hal⟩
        clear G0 b0 o0 SMkx t0 t1 t2 t3 t4 t5 t6 t7 t8 t9 r0 r1
        go_upto_region 18 with fail
        generalize hW : x0.alloc (.cells (llL nX qx).toArray 30) = v1 at G1 ⊢
        clear hW ekx
        obtain ⟨t0, t1, t2, t3, t4, t5, t6, t7, t8, t9⟩ := (show Has _ kx (llL nX qx) from G1.out.1.1).ten
        obtain ⟨r0, r1⟩ := (show Has _ kr [.int .i64 0, .int .i64 0] from G1.out.1.2.1).two
        go_wp2_with fail
        refine (writes1 k nX qx (0, 0) Y nY _ (G1.out.2.1) HE.out.1 SXkx.out (by have := HE.out.2.2.2.1; omega) HT.out.2.1 HE.out.2.1).mono ?_
        rintro e x1 ⟨qy, rfl, o1, SMky, b1⟩
        obtain ⟨ky, eky⟩ : ∃ k, x1.heap.size = k := ⟨_, rfl⟩
        have SXky : Hid (SmallX Y) := SMky
        have lky : kx < ky := by rw [← eky]; exact (G1.out.1.later b1).1.1
        have G2 : Hid (Regs h w (x1.alloc (.cells (llL nY qy).toArray 30)) [(ky, llL nY qy), (kx, llL nX qx), (kr, [.int .i64 0, .int .i64 0]), (g, llL 3 q)] ∧ Rws (x1.alloc (.cells (llL nY qy).toArray 30)) [(qy.lo, flatL Y), (qx.lo, flatL X), (q.lo, flatL base3)]) := by
          have hal : Below x1.heap.size x1 (x1.alloc (.cells (llL nY qy).toArray 30)) := (Below.refl _ _).alloc (Nat.le_refl _) _
          exact ⟨Regs.push (G1.out.1.later b1) eky _ _, o1.later hal, (G1.out.2.later b1).later hal⟩
        clear G1 b1 o1 SMky t0 t1 t2 t3 t4 t5 t6 t7 t8 t9 r0 r1
        go_upto_region 19 with fail
        generalize hW : x1.alloc (.cells (llL nY qy).toArray 30) = v2 at G2 ⊢
        clear hW eky
        obtain ⟨t0, t1, t2, t3, t4, t5, t6, t7, t8, t9⟩ := (show Has _ g (llL 3 q) from G2.out.1.2.2.2.1).ten
        obtain ⟨r0, r1⟩ := (show Has _ kr [.int .i64 0, .int .i64 0] from G2.out.1.2.2.1).two
        go_wp2_with fail
        refine (writes1 k 3 q (0, 0) Z nZ _ (G2.out.2.2.2.1) rfl small_base (by have : base3.length = 3 := rfl; omega) HT.out.2.2.1 HE.out.2.2.1).mono ?_
        rintro e x2 ⟨qz, rfl, o2, SMkz, b2⟩
        obtain ⟨kz, ekz⟩ : ∃ k, x2.heap.size = k := ⟨_, rfl⟩
        have SXkz : Hid (SmallX Z) := SMkz
        have lkz : ky < kz := by rw [← ekz]; exact (G2.out.1.later b2).1.1
        have G3 : Hid (Regs h w (x2.alloc (.cells (llL nZ qz).toArray 30)) [(kz, llL nZ qz), (ky, llL nY qy), (kx, llL nX qx), (kr, [.int .i64 0, .int .i64 0]), (g, llL 3 q)] ∧ Rws (x2.alloc (.cells (llL nZ qz).toArray 30)) [(qz.lo, flatL Z), (qy.lo, flatL Y), (qx.lo, flatL X), (q.lo, flatL base3)]) := by
          have hal : Below x2.heap.size x2 (x2.alloc (.cells (llL nZ qz).toArray 30)) := (Below.refl _ _).alloc (Nat.le_refl _) _
          exact ⟨Regs.push (G2.out.1.later b2) ekz _ _, o2.later hal, (G2.out.2.later b2).later hal⟩
        clear G2 b2 o2 SMkz t0 t1 t2 t3 t4 t5 t6 t7 t8 t9 r0 r1
        go_upto_region 20 with fail
        generalize hW : x2.alloc (.cells (llL nZ qz).toArray 30) = v3 at G3 ⊢
        clear hW ekz
        obtain ⟨t0, t1, t2, t3, t4, t5, t6, t7, t8, t9⟩ := (show Has _ kz (llL nZ qz) from G3.out.1.1).ten
        obtain ⟨r0, r1⟩ := (show Has _ kr [.int .i64 0, .int .i64 0] from G3.out.1.2.2.2.1).two
        go_wp2_with fail
        refine (writes0 j nZ qz (0, 0) Y nY _ (G3.out.2.1) HE.out.2.2.1 SXkz.out (by have := HE.out.2.2.2.2; omega) HT.out.2.2.2.1 HE.out.2.1).mono ?_
        rintro e x3 ⟨qw, rfl, o3, SMkw, b3⟩
        obtain ⟨kw, ekw⟩ : ∃ k, x3.heap.size = k := ⟨_, rfl⟩
        have SXkw : Hid (SmallX Y) := SMkw
        have lkw : kz < kw := by rw [← ekw]; exact (G3.out.1.later b3).1.1
        have G4 : Hid (Regs h w (x3.alloc (.cells (llL nY qw).toArray 30)) [(kw, llL nY qw), (kz, llL nZ qz), (ky, llL nY qy), (kx, llL nX qx), (kr, [.int .i64 0, .int .i64 0]), (g, llL 3 q)] ∧ Rws (x3.alloc (.cells (llL nY qw).toArray 30)) [(qw.lo, flatL Y), (qz.lo, flatL Z), (qy.lo, flatL Y), (qx.lo, flatL X), (q.lo, flatL base3)]) := by
          have hal : Below x3.heap.size x3 (x3.alloc (.cells (llL nY qw).toArray 30)) := (Below.refl _ _).alloc (Nat.le_refl _) _
          exact ⟨Regs.push (G3.out.1.later b3) ekw _ _, o3.later hal, (G3.out.2.later b3).later hal⟩
        clear G3 b3 o3 SMkw t0 t1 t2 t3 t4 t5 t6 t7 t8 t9 r0 r1
        go_upto_region 21 with fail
        generalize hW : x3.alloc (.cells (llL nY qw).toArray 30) = v4 at G4 ⊢
        clear hW ekw
        obtain ⟨t0, t1, t2, t3, t4, t5, t6, t7, t8, t9⟩ := (show Has _ ky (llL nY qy) from G4.out.1.2.2.1).ten
        obtain ⟨s0, s1, s2, s3, s4, s5, s6, s7, s8, s9⟩ := (show Has _ kw (llL nY qw) from G4.out.1.1).ten
        go_wp2_with fail
        refine (samesL Y nY qy qw _ HE.out.2.1 (G4.out.2.2.2.1) (G4.out.2.1) SXky.out).mono ?_
        rintro e x5 ⟨rfl, b5⟩
        have G5 : Hid (Regs h w x5 [(kw, llL nY qw), (kz, llL nZ qz), (ky, llL nY qy), (kx, llL nX qx), (kr, [.int .i64 0, .int .i64 0]), (g, llL 3 q)] ∧ Rws x5 [(qw.lo, flatL Y), (qz.lo, flatL Z), (qy.lo, flatL Y), (qx.lo, flatL X), (q.lo, flatL base3)]) := ⟨G4.out.1.later b5, G4.out.2.later b5⟩
        clear G4 b5 t0 t1 t2 t3 t4 t5 t6 t7 t8 t9 s0 s1 s2 s3 s4 s5 s6 s7 s8 s9
        obtain ⟨t0, t1, t2, t3, t4, t5, t6, t7, t8, t9⟩ := (show Has _ ky (llL nY qy) from G5.out.1.2.2.1).ten
        obtain ⟨vs, hvs⟩ : ∃ vs, valsX Y = vs := ⟨_, rfl⟩
        obtain ⟨nv, hnv⟩ : ∃ nv, vs.length = nv := ⟨_, rfl⟩
        have HVS : Hid (valsX Y = vs ∧ vs.length = nv ∧ nv ≤ 64 ∧ (∀ v ∈ vs, v.size ≤ 256)) := ⟨hvs, hnv, by have := SXky.out.1; have := valsX_le Y; rw [hvs] at this; omega, fun v hv => by
          rw [← hvs] at hv
          obtain ⟨x, hx, rfl⟩ := List.mem_map.1 hv
          exact SXky.out.2 x (List.mem_filter.1 hx).1⟩
        have hnv64 : nv ≤ 64 := HVS.out.2.2.1
        clear hvs hnv
        go_wp2_with fail
        refine (valx_yes (l := Y) (q := qy) _ vs nY nv HE.out.2.1 (G5.out.2.2.2.1) SXky.out HVS.out.1 HVS.out.2.1.symm).mono ?_
        rintro e x6 ⟨vo, cv, rfl, o6, b6⟩
        have G6 : Hid (Below h w x6 ∧ FRow x6 vo (flatT vs)) := ⟨(G5.out.1.later b6).base.1, o6.row⟩
        clear G5 b6 o6 t0 t1 t2 t3 t4 t5 t6 t7 t8 t9
        go_wp2
        go_loopg [25, 26] nv (fun m s25 iv wr => ∃ (i : Nat) (S : ByteArray), i + m = nv ∧ iv = .int .i64 (i : Nat) ∧ s25 = .string S ∧ S.size ≤ 256 * i ∧ Hid (wr = x6 ∧ S.data.toList = (vs.take i).flatMap fun v => v.data.toList))
        case atStart => exact ⟨0, ByteArray.empty, by omega, rfl, rfl, by decide, rfl, rfl⟩
        case round =>
          obtain ⟨i, S, hin, rfl, rfl, hS, HD⟩ := hrel
          by_cases hi : i < nv
          · obtain ⟨bk, off, rfl, hb, hc⟩ := G6.out.2 (by rw [flatT_len, HVS.out.2.1]; omega)
            obtain ⟨x, hx⟩ : ∃ x, vs[i]? = some x := ⟨_, List.getElem?_eq_getElem (by rw [HVS.out.2.1]; exact hi)⟩
            have k0 := hc _ _ (flatT_at hx)
            rw [← HD.out.1] at k0
            have hx2 : x.size ≤ 256 := HVS.out.2.2.2 x (List.mem_of_getElem? hx)
            have HN : Hid ((S ++ x).data.toList = (vs.take (i + 1)).flatMap (fun v => v.data.toList) ∧ (S ++ x).size ≤ 256 * (i + 1)) := by
              refine ⟨?_, ?_⟩
              · rw [List.take_add_one, hx, List.flatMap_append, ← HD.out.2]
                simp
              · rw [ByteArray.size_append]; omega
            have hsum : ¬ (9223372036854775807 < S.size + x.size) := by omega
            clear hc hx
            go_wp2
            go_roundg (gk - 1)
            case measure => omega
            case rel => exact ⟨i + 1, S ++ x, by omega, by go_num, rfl, HN.out.2, HD.out.1, HN.out.1⟩
          · obtain rfl : i = nv := by omega
            have HS : Hid (S.data.toList = wantX A j k ∧ wr = x6) := ⟨by rw [HD.out.2, ← HVS.out.2.1, List.take_length, ← HVS.out.1]; exact HT.out.2.2.2.2, HD.out.1⟩
            clear HD
            go_upto_region 29 with fail
            have j1 : (j : Int) ≤ 4 := by omega
            have j2 : (k : Int) ≤ 4 := by omega
            have j3 : (A : Int) ≤ 3 := by omega
            go_region
            all_goals go_upto_region 30 with fail
            all_goals go_region
            all_goals go_wp2_with (go_at_call 21; refine (num_any _ _).mono ?_; rintro e w0 ⟨rfl, hw0⟩; have hw1 := hw0.symm; clear hw0; subst hw1)
            all_goals go_ret
            all_goals exact ⟨ret_bool (two_want A j k hA (by omega) (by omega) S HS.out.1), by rw [HS.out.2]; exact G6.out.1.drew.drew⟩
      · have h0 : f1 = 2 ∧ f2 = (A : Int) := by
          unfold refN at hf
          rw [if_neg hA0] at hf
          simp only [Prod.mk.injEq] at hf
          exact ⟨hf.1.symm, hf.2.symm⟩
        obtain ⟨rfl, rfl⟩ := h0
        have hpos : decide ((0 : Int) < (A : Int)) = true := by simp; omega
        have hpos2 : (0 : Int) < (A : Int) := by omega
        obtain ⟨r0, r1⟩ := HN.out.2.two
        have s0 := HN.out.2.free 0 rfl
        have s1 := HN.out.2.free 1 rfl
        have G0 : Hid (Regs h w ((w5.setCell ⟨kr, 0, none⟩ (.int .i64 2)).setCell ⟨kr, 1, none⟩ (.int .i64 A)) [(kr, [.int .i64 2, .int .i64 A]), (g, llL 3 q)] ∧ Rws ((w5.setCell ⟨kr, 0, none⟩ (.int .i64 2)).setCell ⟨kr, 1, none⟩ (.int .i64 A)) [(q.lo, flatL base3)]) := by
          have K := H7.out _ ((HN.out.1.setCell (p := ⟨kr, 0, none⟩) (Nat.le_refl _) (.int .i64 2)).setCell (p := ⟨kr, 1, none⟩) (Nat.le_refl _) (.int .i64 A)) (by have := HN.out.2.1; simpa using this) ((HN.out.2.put 0 _).put 1 _)
          exact ⟨K.1, K.2, trivial⟩
        clear H6 H7 HN hf
        go_upto_region 16 with fail
        generalize hW : (w5.setCell ⟨kr, 0, none⟩ (.int .i64 2)).setCell ⟨kr, 1, none⟩ (.int .i64 A) = v0 at G0 ⊢
        clear hW r0 r1 s0 s1
        obtain ⟨nX, enX⟩ : ∃ n, X.length = n := ⟨_, rfl⟩
        obtain ⟨nY, enY⟩ : ∃ n, Y.length = n := ⟨_, rfl⟩
        obtain ⟨nZ, enZ⟩ : ∃ n, Z.length = n := ⟨_, rfl⟩
        have HE : Hid (nX = X.length ∧ nY = Y.length ∧ nZ = Z.length ∧ X.length ≤ 12 ∧ Z.length ≤ 12) := ⟨enX.symm, enY.symm, enZ.symm, by have := runL_len HT.out.1; have : base3.length = 3 := rfl; omega, by have := runL_len HT.out.2.2.1; have : base3.length = 3 := rfl; omega⟩
        clear enX enY enZ
        obtain ⟨t0, t1, t2, t3, t4, t5, t6, t7, t8, t9⟩ := (show Has _ g (llL 3 q) from G0.out.1.2.1).ten
        obtain ⟨r0, r1⟩ := (show Has _ kr [.int .i64 2, .int .i64 (A : Int)] from G0.out.1.1).two
        go_wp2_with fail
        refine (writes0 j 3 q (2, (A : Int)) X nX _ (G0.out.2.1) rfl small_base (by have : base3.length = 3 := rfl; omega) HT.out.1 HE.out.1).mono ?_
        rintro e x0 ⟨qx, rfl, o0, SMkx, b0⟩
        obtain ⟨kx, ekx⟩ : ∃ k, x0.heap.size = k := ⟨_, rfl⟩
        have SXkx : Hid (SmallX X) := SMkx
        have lkx : kr < kx := by rw [← ekx]; exact (G0.out.1.later b0).1.1
        have G1 : Hid (Regs h w (x0.alloc (.cells (llL nX qx).toArray 30)) [(kx, llL nX qx), (kr, [.int .i64 2, .int .i64 (A : Int)]), (g, llL 3 q)] ∧ Rws (x0.alloc (.cells (llL nX qx).toArray 30)) [(qx.lo, flatL X), (q.lo, flatL base3)]) := by
          have hal : Below x0.heap.size x0 (x0.alloc (.cells (llL nX qx).toArray 30)) := (Below.refl _ _).alloc (Nat.le_refl _) _
          exact ⟨Regs.push (G0.out.1.later b0) ekx _ _, o0.later hal, (G0.out.2.later b0).later hal⟩
        clear G0 b0 o0 SMkx t0 t1 t2 t3 t4 t5 t6 t7 t8 t9 r0 r1
        go_upto_region 18 with fail
        generalize hW : x0.alloc (.cells (llL nX qx).toArray 30) = v1 at G1 ⊢
        clear hW ekx
        obtain ⟨t0, t1, t2, t3, t4, t5, t6, t7, t8, t9⟩ := (show Has _ kx (llL nX qx) from G1.out.1.1).ten
        obtain ⟨r0, r1⟩ := (show Has _ kr [.int .i64 2, .int .i64 (A : Int)] from G1.out.1.2.1).two
        go_wp2_with fail
        refine (writes1 k nX qx (2, (A : Int)) Y nY _ (G1.out.2.1) HE.out.1 SXkx.out (by have := HE.out.2.2.2.1; omega) HT.out.2.1 HE.out.2.1).mono ?_
        rintro e x1 ⟨qy, rfl, o1, SMky, b1⟩
        obtain ⟨ky, eky⟩ : ∃ k, x1.heap.size = k := ⟨_, rfl⟩
        have SXky : Hid (SmallX Y) := SMky
        have lky : kx < ky := by rw [← eky]; exact (G1.out.1.later b1).1.1
        have G2 : Hid (Regs h w (x1.alloc (.cells (llL nY qy).toArray 30)) [(ky, llL nY qy), (kx, llL nX qx), (kr, [.int .i64 2, .int .i64 (A : Int)]), (g, llL 3 q)] ∧ Rws (x1.alloc (.cells (llL nY qy).toArray 30)) [(qy.lo, flatL Y), (qx.lo, flatL X), (q.lo, flatL base3)]) := by
          have hal : Below x1.heap.size x1 (x1.alloc (.cells (llL nY qy).toArray 30)) := (Below.refl _ _).alloc (Nat.le_refl _) _
          exact ⟨Regs.push (G1.out.1.later b1) eky _ _, o1.later hal, (G1.out.2.later b1).later hal⟩
        clear G1 b1 o1 SMky t0 t1 t2 t3 t4 t5 t6 t7 t8 t9 r0 r1
        go_upto_region 19 with fail
        generalize hW : x1.alloc (.cells (llL nY qy).toArray 30) = v2 at G2 ⊢
        clear hW eky
        obtain ⟨t0, t1, t2, t3, t4, t5, t6, t7, t8, t9⟩ := (show Has _ g (llL 3 q) from G2.out.1.2.2.2.1).ten
        obtain ⟨r0, r1⟩ := (show Has _ kr [.int .i64 2, .int .i64 (A : Int)] from G2.out.1.2.2.1).two
        go_wp2_with fail
        refine (writes1 k 3 q (2, (A : Int)) Z nZ _ (G2.out.2.2.2.1) rfl small_base (by have : base3.length = 3 := rfl; omega) HT.out.2.2.1 HE.out.2.2.1).mono ?_
        rintro e x2 ⟨qz, rfl, o2, SMkz, b2⟩
        obtain ⟨kz, ekz⟩ : ∃ k, x2.heap.size = k := ⟨_, rfl⟩
        have SXkz : Hid (SmallX Z) := SMkz
        have lkz : ky < kz := by rw [← ekz]; exact (G2.out.1.later b2).1.1
        have G3 : Hid (Regs h w (x2.alloc (.cells (llL nZ qz).toArray 30)) [(kz, llL nZ qz), (ky, llL nY qy), (kx, llL nX qx), (kr, [.int .i64 2, .int .i64 (A : Int)]), (g, llL 3 q)] ∧ Rws (x2.alloc (.cells (llL nZ qz).toArray 30)) [(qz.lo, flatL Z), (qy.lo, flatL Y), (qx.lo, flatL X), (q.lo, flatL base3)]) := by
          have hal : Below x2.heap.size x2 (x2.alloc (.cells (llL nZ qz).toArray 30)) := (Below.refl _ _).alloc (Nat.le_refl _) _
          exact ⟨Regs.push (G2.out.1.later b2) ekz _ _, o2.later hal, (G2.out.2.later b2).later hal⟩
        clear G2 b2 o2 SMkz t0 t1 t2 t3 t4 t5 t6 t7 t8 t9 r0 r1
        go_upto_region 20 with fail
        generalize hW : x2.alloc (.cells (llL nZ qz).toArray 30) = v3 at G3 ⊢
        clear hW ekz
        obtain ⟨t0, t1, t2, t3, t4, t5, t6, t7, t8, t9⟩ := (show Has _ kz (llL nZ qz) from G3.out.1.1).ten
        obtain ⟨r0, r1⟩ := (show Has _ kr [.int .i64 2, .int .i64 (A : Int)] from G3.out.1.2.2.2.1).two
        go_wp2_with fail
        refine (writes0 j nZ qz (2, (A : Int)) Y nY _ (G3.out.2.1) HE.out.2.2.1 SXkz.out (by have := HE.out.2.2.2.2; omega) HT.out.2.2.2.1 HE.out.2.1).mono ?_
        rintro e x3 ⟨qw, rfl, o3, SMkw, b3⟩
        obtain ⟨kw, ekw⟩ : ∃ k, x3.heap.size = k := ⟨_, rfl⟩
        have SXkw : Hid (SmallX Y) := SMkw
        have lkw : kz < kw := by rw [← ekw]; exact (G3.out.1.later b3).1.1
        have G4 : Hid (Regs h w (x3.alloc (.cells (llL nY qw).toArray 30)) [(kw, llL nY qw), (kz, llL nZ qz), (ky, llL nY qy), (kx, llL nX qx), (kr, [.int .i64 2, .int .i64 (A : Int)]), (g, llL 3 q)] ∧ Rws (x3.alloc (.cells (llL nY qw).toArray 30)) [(qw.lo, flatL Y), (qz.lo, flatL Z), (qy.lo, flatL Y), (qx.lo, flatL X), (q.lo, flatL base3)]) := by
          have hal : Below x3.heap.size x3 (x3.alloc (.cells (llL nY qw).toArray 30)) := (Below.refl _ _).alloc (Nat.le_refl _) _
          exact ⟨Regs.push (G3.out.1.later b3) ekw _ _, o3.later hal, (G3.out.2.later b3).later hal⟩
        clear G3 b3 o3 SMkw t0 t1 t2 t3 t4 t5 t6 t7 t8 t9 r0 r1
        go_upto_region 21 with fail
        generalize hW : x3.alloc (.cells (llL nY qw).toArray 30) = v4 at G4 ⊢
        clear hW ekw
        obtain ⟨t0, t1, t2, t3, t4, t5, t6, t7, t8, t9⟩ := (show Has _ ky (llL nY qy) from G4.out.1.2.2.1).ten
        obtain ⟨s0, s1, s2, s3, s4, s5, s6, s7, s8, s9⟩ := (show Has _ kw (llL nY qw) from G4.out.1.1).ten
        go_wp2_with fail
        refine (samesL Y nY qy qw _ HE.out.2.1 (G4.out.2.2.2.1) (G4.out.2.1) SXky.out).mono ?_
        rintro e x5 ⟨rfl, b5⟩
        have G5 : Hid (Regs h w x5 [(kw, llL nY qw), (kz, llL nZ qz), (ky, llL nY qy), (kx, llL nX qx), (kr, [.int .i64 2, .int .i64 (A : Int)]), (g, llL 3 q)] ∧ Rws x5 [(qw.lo, flatL Y), (qz.lo, flatL Z), (qy.lo, flatL Y), (qx.lo, flatL X), (q.lo, flatL base3)]) := ⟨G4.out.1.later b5, G4.out.2.later b5⟩
        clear G4 b5 t0 t1 t2 t3 t4 t5 t6 t7 t8 t9 s0 s1 s2 s3 s4 s5 s6 s7 s8 s9
        obtain ⟨t0, t1, t2, t3, t4, t5, t6, t7, t8, t9⟩ := (show Has _ ky (llL nY qy) from G5.out.1.2.2.1).ten
        obtain ⟨vs, hvs⟩ : ∃ vs, valsX Y = vs := ⟨_, rfl⟩
        obtain ⟨nv, hnv⟩ : ∃ nv, vs.length = nv := ⟨_, rfl⟩
        have HVS : Hid (valsX Y = vs ∧ vs.length = nv ∧ nv ≤ 64 ∧ (∀ v ∈ vs, v.size ≤ 256)) := ⟨hvs, hnv, by have := SXky.out.1; have := valsX_le Y; rw [hvs] at this; omega, fun v hv => by
          rw [← hvs] at hv
          obtain ⟨x, hx, rfl⟩ := List.mem_map.1 hv
          exact SXky.out.2 x (List.mem_filter.1 hx).1⟩
        have hnv64 : nv ≤ 64 := HVS.out.2.2.1
        clear hvs hnv
        go_wp2_with fail
        refine (valx_yes (l := Y) (q := qy) _ vs nY nv HE.out.2.1 (G5.out.2.2.2.1) SXky.out HVS.out.1 HVS.out.2.1.symm).mono ?_
        rintro e x6 ⟨vo, cv, rfl, o6, b6⟩
        have G6 : Hid (Below h w x6 ∧ FRow x6 vo (flatT vs)) := ⟨(G5.out.1.later b6).base.1, o6.row⟩
        clear G5 b6 o6 t0 t1 t2 t3 t4 t5 t6 t7 t8 t9
        go_wp2
        go_loopg [25, 26] nv (fun m s25 iv wr => ∃ (i : Nat) (S : ByteArray), i + m = nv ∧ iv = .int .i64 (i : Nat) ∧ s25 = .string S ∧ S.size ≤ 256 * i ∧ Hid (wr = x6 ∧ S.data.toList = (vs.take i).flatMap fun v => v.data.toList))
        case atStart => exact ⟨0, ByteArray.empty, by omega, rfl, rfl, by decide, rfl, rfl⟩
        case round =>
          obtain ⟨i, S, hin, rfl, rfl, hS, HD⟩ := hrel
          by_cases hi : i < nv
          · obtain ⟨bk, off, rfl, hb, hc⟩ := G6.out.2 (by rw [flatT_len, HVS.out.2.1]; omega)
            obtain ⟨x, hx⟩ : ∃ x, vs[i]? = some x := ⟨_, List.getElem?_eq_getElem (by rw [HVS.out.2.1]; exact hi)⟩
            have k0 := hc _ _ (flatT_at hx)
            rw [← HD.out.1] at k0
            have hx2 : x.size ≤ 256 := HVS.out.2.2.2 x (List.mem_of_getElem? hx)
            have HN : Hid ((S ++ x).data.toList = (vs.take (i + 1)).flatMap (fun v => v.data.toList) ∧ (S ++ x).size ≤ 256 * (i + 1)) := by
              refine ⟨?_, ?_⟩
              · rw [List.take_add_one, hx, List.flatMap_append, ← HD.out.2]
                simp
              · rw [ByteArray.size_append]; omega
            have hsum : ¬ (9223372036854775807 < S.size + x.size) := by omega
            clear hc hx
            go_wp2
            go_roundg (gk - 1)
            case measure => omega
            case rel => exact ⟨i + 1, S ++ x, by omega, by go_num, rfl, HN.out.2, HD.out.1, HN.out.1⟩
          · obtain rfl : i = nv := by omega
            have HS : Hid (S.data.toList = wantX A j k ∧ wr = x6) := ⟨by rw [HD.out.2, ← HVS.out.2.1, List.take_length, ← HVS.out.1]; exact HT.out.2.2.2.2, HD.out.1⟩
            clear HD
            go_upto_region 29 with fail
            have j1 : (j : Int) ≤ 4 := by omega
            have j2 : (k : Int) ≤ 4 := by omega
            have j3 : (A : Int) ≤ 3 := by omega
            go_region
            all_goals go_upto_region 30 with fail
            all_goals go_region
            all_goals go_wp2_with (go_at_call 21; refine (num_any _ _).mono ?_; rintro e w0 ⟨rfl, hw0⟩; have hw1 := hw0.symm; clear hw0; subst hw1)
            all_goals go_ret
            all_goals exact ⟨ret_bool (two_want A j k hA (by omega) (by omega) S HS.out.1), by rw [HS.out.2]; exact G6.out.1.drew.drew⟩

end Go.Proofs.Ytaakhpibdpgjpaa.RgaTwo
