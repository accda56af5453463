/-
  The walk of the law RgaMarks: of a list whose marks are gone new ones come to the same places as of one that has them still.
-/
import Derived.Test.YtghlegidapmpmaaMark10
import Derived.Test.YtghlegidapmpmaaStepE
import Derived.Test.YtghlegidapmpmaaMasks
import Derived.Test.YtghlegidapmpmaaOpenI
namespace Go.Proofs.Ytghlegidapmpmaa.RgaMarks
open Go.RowKit Go.Shelf
set_option linter.unusedVariables false
set_option linter.unusedSimpArgs false

/-- What the first loop keeps. -/
def F1 (w : World) (h g i : Nat) (q : Pl) (l : List L5) (wr : World) : Prop := Regs h w wr [(g, llL i q)] ∧ FOwn (g + 1) wr q.lo (flatL l) ∧ First i l ∧ SmallX l
/-- What the second keeps. -/
def M2 (w : World) (h g g2 i n n2 : Nat) (q q2 : Pl) (l : List L5) (wr : World) : Prop := Regs h w wr [(g, llL n q), (g2, llL n2 q2)] ∧ RowC g g2 wr q.lo (flatL l) ∧ RowC g g2 wr q2.lo (flatL (liveL l)) ∧ Mk i l ∧ n = l.length ∧ n2 = (liveL l).length
/-- Between them: what both lists hold, and what else was made. -/
def M3 (w : World) (h g g2 n n2 : Nat) (q q2 : Pl) (l : List L5) (L : List (Nat × List Value)) (wr : World) : Prop := Regs h w wr ((g, llL n q) :: (g2, llL n2 q2) :: L) ∧ RowC g g2 wr q.lo (flatL l) ∧ RowC g g2 wr q2.lo (flatL (liveL l))
theorem M3.later {w wr w' : World} {h g g2 n n2 : Nat} {q q2 : Pl} {l : List L5} {L : List (Nat × List Value)} (H : M3 w h g g2 n n2 q q2 l L wr) (hb : Below wr.heap.size wr w') : M3 w h g g2 n n2 q q2 l L w' := ⟨H.1.later hb, H.2.1.later hb, H.2.2.later hb⟩
theorem M3.push {w wr : World} {h g g2 n n2 : Nat} {q q2 : Pl} {l : List L5} {L : List (Nat × List Value)} (H : M3 w h g g2 n n2 q q2 l L wr) {k : Nat} (hk : wr.heap.size = k) (xs : List Value) (t : TypeId) : M3 w h g g2 n n2 q q2 l ((k, xs) :: L) (wr.alloc (.cells xs.toArray t)) := by
  have hal : Below wr.heap.size wr (wr.alloc (.cells xs.toArray t)) := (Below.refl _ _).alloc (Nat.le_refl _) _
  obtain ⟨⟨h1, h2, h3⟩, h4, h5⟩ := H
  have P : Regs h w wr L := h3
  have K := Regs.push P hk xs t
  exact ⟨⟨h1.later hal, h2.later hal, K⟩, h4.later hal, h5.later hal⟩
theorem ref_num (M i : Nat) : ∃ r k : Nat, r ≤ i ∧ (0 < i → Int.tmod (M : Int) (i : Int) = (k : Int) ∧ (1 : Int) + (k : Int) = (r : Int) ∧ 1 ≤ r) ∧ (¬ 0 < i → r = 0) := by
  by_cases h : 0 < i
  · refine ⟨1 + M % i, M % i, by have := Nat.mod_lt M h; omega, fun _ => ⟨?_, by omega, by omega⟩, fun h2 => absurd h h2⟩
    rw [Int.tmod_eq_emod_of_nonneg (by omega)]
    omega
  · exact ⟨0, 0, by omega, fun h2 => absurd h2 h, fun _ => rfl⟩

theorem eras_rangeV {l : List L5} {q : Pl} {d : D2} (w : World) (n : Nat) (hn : n = l.length) (hr : FRow w q.lo (flatL l)) (hs : SmallX l) (hm : eraL l d = none) :
    Calls Try.prog 9 #[llV n q, dv d] w fun r w' => ∃ (k : Int) (p : Pl), r = .returned (.tuple #[.agg #[.int .i64 k, .bool false, .int .i64 0, .int .i64 0, .string ⟨#[]⟩, .int .i64 0, .int .i64 0, .slice p.eo 0 p.ec, .slice p.lo 0 p.lc, .slice p.so 0 p.sc], .int .i64 1001]) ∧ Below w.heap.size w w' := (eras_range w n hn hr hs hm).mono fun r w' h => ⟨0, pl0, h⟩

set_option maxHeartbeats 8000000 in
set_option maxRecDepth 100000 in
theorem core (ao : Option Addr) (ca : Nat) (ps : List Int) (bo : Option Addr) (cb : Nat) (qs : List Int) (w : World) (hr : FRow w ao (flatI ps)) (hl : ps.length * 8 ≤ 140737488351232) (hr2 : FRow w bo (flatI qs)) (hl2 : qs.length * 8 ≤ 140737488351232) :
    Calls Try.prog 3 #[.slice ao ps.length ca, .slice bo qs.length cb] w fun e w' => e = .returned (.bool true) ∧ Below w.heap.size w w' := by
  have HP : Hid (FRow w ao (flatI ps)) := hr
  have HP2 : Hid (FRow w bo (flatI qs)) := hr2
  obtain ⟨h, hh⟩ : ∃ h, w.heap.size = h := ⟨_, rfl⟩
  have HH : Hid (w.heap.size = h) := hh
  rw [hh]
  obtain ⟨P, hP1, hP2, hP3⟩ : ∃ P : Nat, P ≤ ps.length ∧ P ≤ 20 ∧ Hid (P = ps.length ∨ P = 20) := by
    by_cases h : ps.length ≤ 20
    · exact ⟨ps.length, by omega, h, Or.inl rfl⟩
    · exact ⟨20, by omega, by omega, Or.inr rfl⟩
  obtain ⟨Q, hQ1, hQ2, hQ3⟩ : ∃ P : Nat, P ≤ qs.length ∧ P ≤ 20 ∧ Hid (P = qs.length ∨ P = 20) := by
    by_cases h : qs.length ≤ 20
    · exact ⟨qs.length, by omega, h, Or.inl rfl⟩
    · exact ⟨20, by omega, by omega, Or.inr rfl⟩
  clear hr hr2
  go_enter Try.func3, Try.ntmps3
  go_wp2_with fail
  refine (awake10_any _).mono ?_
  rintro e w1 ⟨rfl, b1⟩
  obtain ⟨g, hg⟩ : ∃ g, w1.heap.size = g := ⟨_, rfl⟩
  have HG : Hid (h ≤ g) := by have := b1.size; show h ≤ g; omega
  have L0 : Hid (F1 w h g 0 pl0 [] (w1.alloc (.cells (zl 3).toArray 31))) := by
    have R : Regs h w w1 [] := ⟨hh ▸ b1, by have := b1.size; omega⟩
    exact ⟨Regs.push R hg _ _, FOwn.nil _ _ _, first_nil, smallX_nil⟩
  clear b1 hh
  go_upto_block 0 with fail
  generalize hW : w1.alloc (.cells (zl 3).toArray 31) = w2 at L0 ⊢
  clear hW hg
  go_cut [6, 7, 8, 9, 10, 11] from 35 to 91 (fun s6 _ _ _ _ _ wx => ∃ (i : Nat) (q : Pl) (l : List L5), i ≤ 20 ∧ s6 = .int .i64 (i : Nat) ∧ Hid (F1 w h g i q l wx))
  case first =>
    go_wp2_with fail
    go_loopg [6, 7, 8, 9, 10, 11] P (fun m s6 _ _ _ _ _ wr => ∃ (i : Nat) (q : Pl) (l : List L5), i + m = P ∧ s6 = .int .i64 (i : Nat) ∧ Hid (F1 w h g i q l wr))
    case atStart => exact ⟨0, pl0, [], by omega, rfl, L0.out⟩
    case round =>
      clear L0
      obtain ⟨i, q, l, him, rfl, HF⟩ := hrel
      by_cases hi : i < P
      · have hi20 : i < 20 := by omega
        have hip : i < ps.length := by omega
        obtain ⟨pb, po, rfl, hpb, hpc⟩ := HP.out (by rw [flatI_len]; omega)
        obtain ⟨pk, hpk⟩ : ∃ p, ps.getD i 0 = p := ⟨_, rfl⟩
        have HC : Hid (∀ W, Below h w W → W.cell? ⟨pb, po + i, none⟩ = some (.int .i64 pk)) := fun W hW => (hW.cell (p := ⟨pb, po + i, none⟩) (by rw [← HH.out]; exact hpb)).trans (hpc _ _ (by
          have h5 : ps[i]? = some ps[i] := List.getElem?_eq_getElem hip
          rw [flatI_at ps i h5, ← hpk]
          simp [List.getD, h5]))
        obtain ⟨M, hM, eM⟩ : ∃ z : Nat, z < 1024 ∧ bits .and .i64 pk 1023 = (z : Int) := and_mask pk 10 (by omega)
        obtain ⟨t, ht, et⟩ : ∃ z : Nat, z < 2 ∧ bits .and .i64 (pk / 1024) 1 = (z : Int) := and_mask (pk / 1024) 1 (by omega)
        have Het : Hid (bits .and .i64 (pk / 1024) 1 = (t : Int)) := et
        obtain ⟨r, k0, hri, hR1, hR2⟩ := ref_num M i
        have HR : Hid ((0 < i → 1 ≤ r) ∧ (¬ 0 < i → r = 0)) := ⟨fun h => (hR1 h).2.2, hR2⟩
        obtain ⟨v, hev⟩ : ∃ v, ((⟨#[119]⟩ : ByteArray) ++ (⟨(Lib.decDigits i).toArray⟩ : ByteArray)) = v := ⟨_, rfl⟩
        have hvs : v.size ≤ 256 := hev ▸ val_size1 119 (by omega)
        have hdl := dec_len20 i (by omega)
        have hsum1 : ¬ (9223372036854775807 < 1 + (Lib.decDigits i).length) := by omega
        have hsum2 : ¬ (9223372036854775807 < (⟨#[119]⟩ : ByteArray).size + (⟨(Lib.decDigits i).toArray⟩ : ByteArray).size) := by rw [← ByteArray.size_append, hev]; omega
        obtain ⟨m, HX⟩ : ∃ m, Hid (okX l ⟨0, (i : Int) + 1, (i : Int) + 1, v, false⟩ = true ∧ insL l ⟨0, (i : Int) + 1, (i : Int) + 1, v, false⟩ (0, (r : Int)) = some m ∧ SmallX l ∧ i = l.length ∧ i + 1 = m.length ∧ First (i + 1) m ∧ SmallX m) := by
          obtain ⟨m, h1, h2, h3, h4⟩ := first_step HF.out.2.2.1 HF.out.2.2.2 hi20 hri hvs
          exact ⟨m, h1, h2, HF.out.2.2.2, HF.out.2.2.1.len.symm, h3.len.symm, h3, h4⟩
        have hd1 : decide ((i : Int) < (ps.length : Int)) = true := by simp; omega
        have hd2 : decide ((i : Int) < 20) = true := by simp; omega
        obtain ⟨kd, ekd⟩ : ∃ kd, wr.heap.size = kd := ⟨_, rfl⟩
        have hgk : g < kd := by rw [← ekd]; exact HF.out.1.1.1
        have HK0 : Hid (wr.heap.size = kd ∧ FOwn (g + 1) wr q.lo (flatL l) ∧ Regs h w wr [(g, llL i q)]) := ⟨ekd, HF.out.2.1, HF.out.1⟩
        have R0 : Hid (Regs h w (wr.alloc (.cells #[.int .i64 0, .int .i64 0] 33)) [(kd, [.int .i64 0, .int .i64 0]), (g, llL i q)] ∧ Below kd wr (wr.alloc (.cells #[.int .i64 0, .int .i64 0] 33))) := ⟨Regs.push HF.out.1 ekd [.int .i64 0, .int .i64 0] _, (Below.refl _ _).alloc (by omega) _⟩
        clear hpc hpk hpb HF et
        by_cases hi0 : 0 < i
        · obtain ⟨hm1, hm2, _⟩ := hR1 hi0
          have c0 := HC.out _ R0.out.1.base.1
          have HS7 : Hid (Regs h w (wr.alloc (.cells #[.int .i64 0, .int .i64 (r : Nat)] 33)) [(kd, [.int .i64 0, .int .i64 (r : Nat)]), (g, llL i q)] ∧ FOwn (g + 1) (wr.alloc (.cells #[.int .i64 0, .int .i64 (r : Nat)] 33)) q.lo (flatL l)) :=
            ⟨Regs.push HK0.out.2.2 ekd [.int .i64 0, .int .i64 (r : Nat)] _, HK0.out.2.1.later ((Below.refl _ _).alloc (Nat.le_refl _) _)⟩
          clear hR1 hR2 R0
          go_upto_region 10 with fail
          generalize hW : wr.alloc (.cells #[.int .i64 0, .int .i64 (r : Nat)] 33) = w7 at HS7 ⊢
          clear hW ekd c0 hm1 hm2 eM HK0 hi0
          obtain ⟨B, hB⟩ : ∃ B, w7.heap.size = B := ⟨_, rfl⟩
          have hgB : g < B := by rw [← hB]; exact HS7.out.1.2.1.1
          have hkB : kd < B := by rw [← hB]; exact HS7.out.1.1.1
          have HSr : Hid (SrcL w7 B g i q l kd 0 (.int .i64 0) kd 1 (.int .i64 (r : Nat))) := ⟨hB, HS7.out.1.2.1, HS7.out.2.row, hkB, HS7.out.1.1.at 0 rfl, hkB, HS7.out.1.1.at 1 rfl⟩
          have HB : Hid (w7.heap.size = B) := hB
          have hz0 : B ≤ w7.heap.size := by omega
          have hzd : B ≤ w7.drew.heap.size := hz0
          have hw1 : IntKind.i64.wrap ((i : Int) + 1) = (i : Int) + 1 := by rw [IntKind.wrap_i64]; omega
          clear hB
          go_cut [8, 9] from 57 to 70 (fun p e wx => ∃ (kc : Nat) (q' : Pl), p = .pointer (some ⟨kc, 0, none⟩) ∧ e = .int .i64 0 ∧ Hid (EndL w7 B (i + 1) m kc q' wx))
          case first =>
            go_region_held3 (HeldL w7 B g i q kd 0 (.int .i64 0) kd 1 (.int .i64 (r : Nat))) (first | (with_reducible apply heldL_later HSr.out hb2; assumption) | with_reducible apply heldL_put HSr.out T6 (by assumption) | (with_reducible apply heldL_swap HSr.out (by omega) (by assumption)) | (with_reducible exact heldL_drew HSr.out) | (with_reducible exact heldL_first HSr.out _) | (with_reducible apply heldL_alloc HSr.out _ (by assumption)))
              (first
                | (go_at_call 7; with_reducible refine (deci_any i _ (by omega)).mono ?_; rintro r w3 ⟨rfl, hb2⟩; have hz := hb2.size; first | (with_reducible have T6 := nineT_newd (B := B) (by omega) hb2; obtain ⟨y0, y1, y2, y3, y4, y5, y6, y7, y8, y9⟩ := nineT_ten T6; obtain ⟨z0, z1, z2, z3, z4, z5, z6, z7, z8, z9⟩ := nineT_tenf T6) | (with_reducible have T6 := nineT_new (B := B) (by omega) hb2; obtain ⟨y0, y1, y2, y3, y4, y5, y6, y7, y8, y9⟩ := nineT_ten T6; obtain ⟨z0, z1, z2, z3, z4, z5, z6, z7, z8, z9⟩ := nineT_tenf T6) | (with_reducible replace T6 := nineT_later T6 hb2; obtain ⟨y0, y1, y2, y3, y4, y5, y6, y7, y8, y9⟩ := nineT_ten T6; obtain ⟨z0, z1, z2, z3, z4, z5, z6, z7, z8, z9⟩ := nineT_tenf T6) | skip)
                | (go_at_call 6; with_reducible refine (elem_any _ _ _ _ _).mono ?_; rintro r w3 ⟨rfl, hb2⟩; have hz := hb2.size; first | (with_reducible have T6 := nineT_newd (B := B) (by omega) hb2; obtain ⟨y0, y1, y2, y3, y4, y5, y6, y7, y8, y9⟩ := nineT_ten T6; obtain ⟨z0, z1, z2, z3, z4, z5, z6, z7, z8, z9⟩ := nineT_tenf T6) | (with_reducible have T6 := nineT_new (B := B) (by omega) hb2; obtain ⟨y0, y1, y2, y3, y4, y5, y6, y7, y8, y9⟩ := nineT_ten T6; obtain ⟨z0, z1, z2, z3, z4, z5, z6, z7, z8, z9⟩ := nineT_tenf T6) | (with_reducible replace T6 := nineT_later T6 hb2; obtain ⟨y0, y1, y2, y3, y4, y5, y6, y7, y8, y9⟩ := nineT_ten T6; obtain ⟨z0, z1, z2, z3, z4, z5, z6, z7, z8, z9⟩ := nineT_tenf T6) | skip)
                | (go_at_call 5; with_reducible refine (ins_atL (e := ⟨0, (i : Int) + 1, (i : Int) + 1, v, false⟩) (d := (0, (r : Int))) (m := m) (n' := i + 1) HSr.out (by assumption) HX.out.2.2.2.1 HX.out.2.2.1 HX.out.1 HX.out.2.1 HX.out.2.2.2.2.1).mono ?_; rintro r w3 ⟨q', rfl, O3, hC3, hb2⟩; have hz := hb2.size; first | (with_reducible have T6 := nineT_newd (B := B) (by omega) hb2; obtain ⟨y0, y1, y2, y3, y4, y5, y6, y7, y8, y9⟩ := nineT_ten T6; obtain ⟨z0, z1, z2, z3, z4, z5, z6, z7, z8, z9⟩ := nineT_tenf T6) | (with_reducible have T6 := nineT_new (B := B) (by omega) hb2; obtain ⟨y0, y1, y2, y3, y4, y5, y6, y7, y8, y9⟩ := nineT_ten T6; obtain ⟨z0, z1, z2, z3, z4, z5, z6, z7, z8, z9⟩ := nineT_tenf T6) | (with_reducible replace T6 := nineT_later T6 hb2; obtain ⟨y0, y1, y2, y3, y4, y5, y6, y7, y8, y9⟩ := nineT_ten T6; obtain ⟨z0, z1, z2, z3, z4, z5, z6, z7, z8, z9⟩ := nineT_tenf T6) | skip))
            all_goals
              (go_wp2_with fail
               go_meet
               case rel =>
                 (first
                   | (have E7 := endL_put (w1 := w7) (l' := m) T6 O3 (by assumption); exact ⟨_, q', rfl, rfl, E7⟩)
                   | (have E7 := endL_new (w1 := w7) (W := w3) (B := B) (l' := m) 31 hC3 (by omega) O3 (by assumption); exact ⟨_, q', rfl, rfl, E7⟩)))
          case rest =>
            obtain ⟨w3, rfl⟩ : ∃ z, z = wc := ⟨_, rfl⟩
            obtain ⟨kc, q', rfl, rfl, HE⟩ := hcut
            have H3 : Hid (g + 1 ≤ B ∧ B ≤ kc ∧ Has w3 kc (llL (i + 1) q') ∧ Has w3 g (llL i q) ∧ Has w3 kd [.int .i64 0, .int .i64 (r : Nat)] ∧ FOwn B w3 q'.lo (flatL m) ∧ (Below h w w3 ∧ h ≤ w3.heap.size)) := by
              have hb := HE.out.2.2.2
              have K := HS7.out.1.fit HB.out hb
              exact ⟨by omega, HE.out.1, HE.out.2.1, K.2.1, K.1, HE.out.2.2.1, K.base⟩
            have hkc : g < kc := by have := H3.out.2.1; omega
            clear HSr HB HE HS7 hz0 hzd hw1 hdl hev
            obtain ⟨t0, t1, t2, t3, t4, t5, t6, t7, t8, t9⟩ := H3.out.2.2.1.ten
            obtain ⟨y0, y1, y2, y3, y4, y5, y6, y7, y8, y9⟩ := H3.out.2.2.2.1.ten
            obtain ⟨z0, z1, z2, z3, z4, z5, z6, z7, z8, z9⟩ := H3.out.2.2.2.1.tenf
            have H4 : Hid (Regs h w (put10 w3 g (.int .i64 3) (.bool false) (.int .i64 0) (.int .i64 0) (.string ⟨#[]⟩) (.int .i64 0) (.int .i64 0) (.slice q'.eo 0 q'.ec) (.slice q'.lo (i + 1) q'.lc) (.slice q'.so 0 q'.sc)) [(g, llL (i + 1) q'), (kd, [.int .i64 0, .int .i64 (r : Nat)])] ∧ FOwn (g + 1) (put10 w3 g (.int .i64 3) (.bool false) (.int .i64 0) (.int .i64 0) (.string ⟨#[]⟩) (.int .i64 0) (.int .i64 0) (.slice q'.eo 0 q'.ec) (.slice q'.lo (i + 1) q'.lc) (.slice q'.so 0 q'.sc)) q'.lo (flatL m)) := by
              obtain ⟨h1, h2, h3, h4, h5, h7, h8⟩ := H3.out
              have K := roundL (L := [(kd, [.int .i64 0, .int .i64 (r : Nat)])]) (n' := i + 1) (q' := q') h4 ⟨h5, h8⟩ h7 HG.out (by omega) (fun e he => by
                simp only [List.mem_cons, List.not_mem_nil, or_false] at he
                subst he
                show kd ≠ g; omega)
              exact ⟨K.1, (h7.put10 (by omega) _ _ _ _ _ _ _ _ _ _).mono h1⟩
            go_upto_region 14 with (go_at_call 8; refine (num_any _ _).mono ?_; rintro e w0 ⟨rfl, hw0⟩; have hw1 := hw0.symm; clear hw0; subst hw1)
            dsimp only [put10] at H4
            clear t0 t1 t2 t3 t4 t5 t6 t7 t8 t9 y0 y1 y2 y3 y4 y5 y6 y7 y8 y9 z0 z1 z2 z3 z4 z5 z6 z7 z8 z9
            generalize hW : World.setCell _ (⟨g, 9, none⟩ : Addr) _ = w4 at H4 ⊢
            clear hW H3
            have c4 := HC.out _ H4.out.1.base.1
            have ht01 : t = 0 ∨ t = 1 := by omega
            rcases ht01 with rfl | rfl
            · have et : bits .and .i64 (pk / 1024) 1 = 0 := Het.out
              go_wp2
              go_roundg (gk - 1)
              case measure => omega
              case rel => exact ⟨i + 1, q', m, by omega, by go_num, ⟨H4.out.1.1, H4.out.1.2.2⟩, H4.out.2, HX.out.2.2.2.2.2.1, HX.out.2.2.2.2.2.2⟩
            · have et : bits .and .i64 (pk / 1024) 1 = 1 := Het.out
              obtain ⟨t0, t1, t2, t3, t4, t5, t6, t7, t8, t9⟩ := H4.out.1.1.ten
              obtain ⟨r0, r1⟩ := H4.out.1.2.1.two
              by_cases hr0 : 1 ≤ r
              · obtain ⟨m2, hm2, hF2⟩ := first_era HX.out.2.2.2.2.2.1 hr0 (by omega)
                have HY : Hid (eraL m (0, (r : Int)) = some m2 ∧ First (i + 1) m2 ∧ SmallX m2 ∧ i + 1 = m.length ∧ SmallX m) := ⟨hm2, hF2, smallX_era HX.out.2.2.2.2.2.2 hm2, HX.out.2.2.2.2.1, HX.out.2.2.2.2.2.2⟩
                clear hm2 hF2
                go_wp2_with fail
                refine (eras_yes (l := m) (q := q') (d := (0, (r : Int))) _ m2 (i + 1) HY.out.2.2.2.1 H4.out.2.row HY.out.2.2.2.2 HY.out.1).mono ?_
                rintro e v5 ⟨q3, rfl, o5, b5⟩
                obtain ⟨k5, ek5⟩ : ∃ k, v5.heap.size = k := ⟨_, rfl⟩
                have G5 : Hid (Regs h w (v5.alloc (.cells (llL (i + 1) q3).toArray 31)) [(k5, llL (i + 1) q3), (g, llL (i + 1) q')] ∧ FOwn (g + 1) (v5.alloc (.cells (llL (i + 1) q3).toArray 31)) q3.lo (flatL m2) ∧ g < k5) := by
                  have hal : Below v5.heap.size v5 (v5.alloc (.cells (llL (i + 1) q3).toArray 31)) := (Below.refl _ _).alloc (Nat.le_refl _) _
                  have R : Regs h w v5 [(g, llL (i + 1) q')] := ⟨(H4.out.1.later b5).1, (H4.out.1.later b5).2.2⟩
                  exact ⟨Regs.push R ek5 _ _, (o5.later hal).mono (by have := H4.out.1.1.1; omega), by have := R.1.1; omega⟩
                have hgk5 : g < k5 := G5.out.2.2
                clear b5 o5 H4 t0 t1 t2 t3 t4 t5 t6 t7 t8 t9 r0 r1 c4
                go_upto_region 16 with fail
                generalize hW : v5.alloc (.cells (llL (i + 1) q3).toArray 31) = v6 at G5 ⊢
                clear hW ek5
                obtain ⟨t0, t1, t2, t3, t4, t5, t6, t7, t8, t9⟩ := (show Has _ k5 (llL (i + 1) q3) from G5.out.1.1).ten
                obtain ⟨y0, y1, y2, y3, y4, y5, y6, y7, y8, y9⟩ := (show Has _ g (llL (i + 1) q') from G5.out.1.2.1).ten
                obtain ⟨z0, z1, z2, z3, z4, z5, z6, z7, z8, z9⟩ := (show Has _ g (llL (i + 1) q') from G5.out.1.2.1).tenf
                have H6 : Hid (Regs h w (put10 v6 g (.int .i64 3) (.bool false) (.int .i64 0) (.int .i64 0) (.string ⟨#[]⟩) (.int .i64 0) (.int .i64 0) (.slice q3.eo 0 q3.ec) (.slice q3.lo (i + 1) q3.lc) (.slice q3.so 0 q3.sc)) [(g, llL (i + 1) q3)] ∧ FOwn (g + 1) (put10 v6 g (.int .i64 3) (.bool false) (.int .i64 0) (.int .i64 0) (.string ⟨#[]⟩) (.int .i64 0) (.int .i64 0) (.slice q3.eo 0 q3.ec) (.slice q3.lo (i + 1) q3.lc) (.slice q3.so 0 q3.sc)) q3.lo (flatL m2)) := by
                  obtain ⟨⟨h1, h2, h3⟩, h5, _⟩ := G5.out
                  have K := roundL (B := g + 1) (L := []) (n' := i + 1) (q' := q3) h2 h3 h5 HG.out (by omega) (fun e he => by simp at he)
                  exact ⟨K.1, h5.put10 (by omega) _ _ _ _ _ _ _ _ _ _⟩
                clear G5
                go_wp2_with (go_at_call 8; refine (num_any _ _).mono ?_; rintro e w0 ⟨rfl, hw0⟩; have hw1 := hw0.symm; clear hw0; subst hw1)
                go_roundg (gk - 1)
                case measure => omega
                case rel => exact ⟨i + 1, q3, m2, by omega, by go_num, H6.out.1, H6.out.2, HY.out.2.1, HY.out.2.2.1⟩
              · have hm0 : eraL m (0, (r : Int)) = none := by
                  have e : (r : Int) = 0 := by omega
                  rw [e]
                  exact first_zero HX.out.2.2.2.2.2.1
                have HY : Hid (eraL m (0, (r : Int)) = none) := hm0
                clear hm0 hr0
                go_wp2_with fail
                refine (eras_rangeV (l := m) (q := q') (d := (0, (r : Int))) _ (i + 1) HX.out.2.2.2.2.1 H4.out.2.row HX.out.2.2.2.2.2.2 HY.out).mono ?_
                rintro e v5 ⟨kz, qz, rfl, b5⟩
                obtain ⟨k5, ek5⟩ : ∃ k, v5.heap.size = k := ⟨_, rfl⟩
                have G5 : Hid (Regs h w (v5.alloc (.cells ([.int .i64 kz, .bool false, .int .i64 0, .int .i64 0, .string ⟨#[]⟩, .int .i64 0, .int .i64 0, .slice qz.eo 0 qz.ec, .slice qz.lo 0 qz.lc, .slice qz.so 0 qz.sc]).toArray 31)) [(g, llL (i + 1) q')] ∧ FOwn (g + 1) (v5.alloc (.cells ([.int .i64 kz, .bool false, .int .i64 0, .int .i64 0, .string ⟨#[]⟩, .int .i64 0, .int .i64 0, .slice qz.eo 0 qz.ec, .slice qz.lo 0 qz.lc, .slice qz.so 0 qz.sc]).toArray 31)) q'.lo (flatL m)) := by
                  have hal : Below v5.heap.size v5 (v5.alloc (.cells ([.int .i64 kz, .bool false, .int .i64 0, .int .i64 0, .string ⟨#[]⟩, .int .i64 0, .int .i64 0, .slice qz.eo 0 qz.ec, .slice qz.lo 0 qz.lc, .slice qz.so 0 qz.sc]).toArray 31)) := (Below.refl _ _).alloc (Nat.le_refl _) _
                  exact ⟨Regs.later ⟨(H4.out.1.later b5).1, (H4.out.1.later b5).2.2⟩ hal, (H4.out.2.later b5).later hal⟩
                clear b5 H4 t0 t1 t2 t3 t4 t5 t6 t7 t8 t9 r0 r1 c4
                go_upto_region 16 with fail
                generalize hW : v5.alloc (.cells ([.int .i64 kz, .bool false, .int .i64 0, .int .i64 0, .string ⟨#[]⟩, .int .i64 0, .int .i64 0, .slice qz.eo 0 qz.ec, .slice qz.lo 0 qz.lc, .slice qz.so 0 qz.sc]).toArray 31) = v6 at G5 ⊢
                clear hW ek5
                go_wp2_with (go_at_call 8; refine (num_any _ _).mono ?_; rintro e w0 ⟨rfl, hw0⟩; have hw1 := hw0.symm; clear hw0; subst hw1)
                go_roundg (gk - 1)
                case measure => omega
                case rel => exact ⟨i + 1, q', m, by omega, by go_num, G5.out.1, G5.out.2, HX.out.2.2.2.2.2.1, HX.out.2.2.2.2.2.2⟩
        · have HS7 : Hid (Regs h w (wr.alloc (.cells #[.int .i64 0, .int .i64 0] 33)) [(kd, [.int .i64 0, .int .i64 (r : Nat)]), (g, llL i q)] ∧ FOwn (g + 1) (wr.alloc (.cells #[.int .i64 0, .int .i64 0] 33)) q.lo (flatL l)) := by
            have e : (r : Int) = 0 := by have := hR2 hi0; omega
            rw [e]
            exact ⟨R0.out.1, HK0.out.2.1.later (HK0.out.1.symm ▸ R0.out.2)⟩
          clear hR1 hR2 R0
          go_upto_region 10 with fail
          generalize hW : wr.alloc (.cells #[.int .i64 0, .int .i64 0] 33) = w7 at HS7 ⊢
          clear hW ekd eM HK0 hi0
          obtain ⟨B, hB⟩ : ∃ B, w7.heap.size = B := ⟨_, rfl⟩
          have hgB : g < B := by rw [← hB]; exact HS7.out.1.2.1.1
          have hkB : kd < B := by rw [← hB]; exact HS7.out.1.1.1
          have HSr : Hid (SrcL w7 B g i q l kd 0 (.int .i64 0) kd 1 (.int .i64 (r : Nat))) := ⟨hB, HS7.out.1.2.1, HS7.out.2.row, hkB, HS7.out.1.1.at 0 rfl, hkB, HS7.out.1.1.at 1 rfl⟩
          have HB : Hid (w7.heap.size = B) := hB
          have hz0 : B ≤ w7.heap.size := by omega
          have hzd : B ≤ w7.drew.heap.size := hz0
          have hw1 : IntKind.i64.wrap ((i : Int) + 1) = (i : Int) + 1 := by rw [IntKind.wrap_i64]; omega
          clear hB
          go_cut [8, 9] from 57 to 70 (fun p e wx => ∃ (kc : Nat) (q' : Pl), p = .pointer (some ⟨kc, 0, none⟩) ∧ e = .int .i64 0 ∧ Hid (EndL w7 B (i + 1) m kc q' wx))
          case first =>
            go_region_held3 (HeldL w7 B g i q kd 0 (.int .i64 0) kd 1 (.int .i64 (r : Nat))) (first | (with_reducible apply heldL_later HSr.out hb2; assumption) | with_reducible apply heldL_put HSr.out T6 (by assumption) | (with_reducible apply heldL_swap HSr.out (by omega) (by assumption)) | (with_reducible exact heldL_drew HSr.out) | (with_reducible exact heldL_first HSr.out _) | (with_reducible apply heldL_alloc HSr.out _ (by assumption)))
              (first
                | (go_at_call 7; with_reducible refine (deci_any i _ (by omega)).mono ?_; rintro r w3 ⟨rfl, hb2⟩; have hz := hb2.size; first | (with_reducible have T6 := nineT_newd (B := B) (by omega) hb2; obtain ⟨y0, y1, y2, y3, y4, y5, y6, y7, y8, y9⟩ := nineT_ten T6; obtain ⟨z0, z1, z2, z3, z4, z5, z6, z7, z8, z9⟩ := nineT_tenf T6) | (with_reducible have T6 := nineT_new (B := B) (by omega) hb2; obtain ⟨y0, y1, y2, y3, y4, y5, y6, y7, y8, y9⟩ := nineT_ten T6; obtain ⟨z0, z1, z2, z3, z4, z5, z6, z7, z8, z9⟩ := nineT_tenf T6) | (with_reducible replace T6 := nineT_later T6 hb2; obtain ⟨y0, y1, y2, y3, y4, y5, y6, y7, y8, y9⟩ := nineT_ten T6; obtain ⟨z0, z1, z2, z3, z4, z5, z6, z7, z8, z9⟩ := nineT_tenf T6) | skip)
                | (go_at_call 6; with_reducible refine (elem_any _ _ _ _ _).mono ?_; rintro r w3 ⟨rfl, hb2⟩; have hz := hb2.size; first | (with_reducible have T6 := nineT_newd (B := B) (by omega) hb2; obtain ⟨y0, y1, y2, y3, y4, y5, y6, y7, y8, y9⟩ := nineT_ten T6; obtain ⟨z0, z1, z2, z3, z4, z5, z6, z7, z8, z9⟩ := nineT_tenf T6) | (with_reducible have T6 := nineT_new (B := B) (by omega) hb2; obtain ⟨y0, y1, y2, y3, y4, y5, y6, y7, y8, y9⟩ := nineT_ten T6; obtain ⟨z0, z1, z2, z3, z4, z5, z6, z7, z8, z9⟩ := nineT_tenf T6) | (with_reducible replace T6 := nineT_later T6 hb2; obtain ⟨y0, y1, y2, y3, y4, y5, y6, y7, y8, y9⟩ := nineT_ten T6; obtain ⟨z0, z1, z2, z3, z4, z5, z6, z7, z8, z9⟩ := nineT_tenf T6) | skip)
                | (go_at_call 5; with_reducible refine (ins_atL (e := ⟨0, (i : Int) + 1, (i : Int) + 1, v, false⟩) (d := (0, (r : Int))) (m := m) (n' := i + 1) HSr.out (by assumption) HX.out.2.2.2.1 HX.out.2.2.1 HX.out.1 HX.out.2.1 HX.out.2.2.2.2.1).mono ?_; rintro r w3 ⟨q', rfl, O3, hC3, hb2⟩; have hz := hb2.size; first | (with_reducible have T6 := nineT_newd (B := B) (by omega) hb2; obtain ⟨y0, y1, y2, y3, y4, y5, y6, y7, y8, y9⟩ := nineT_ten T6; obtain ⟨z0, z1, z2, z3, z4, z5, z6, z7, z8, z9⟩ := nineT_tenf T6) | (with_reducible have T6 := nineT_new (B := B) (by omega) hb2; obtain ⟨y0, y1, y2, y3, y4, y5, y6, y7, y8, y9⟩ := nineT_ten T6; obtain ⟨z0, z1, z2, z3, z4, z5, z6, z7, z8, z9⟩ := nineT_tenf T6) | (with_reducible replace T6 := nineT_later T6 hb2; obtain ⟨y0, y1, y2, y3, y4, y5, y6, y7, y8, y9⟩ := nineT_ten T6; obtain ⟨z0, z1, z2, z3, z4, z5, z6, z7, z8, z9⟩ := nineT_tenf T6) | skip))
            all_goals
              (go_wp2_with fail
               go_meet
               case rel =>
                 (first
                   | (have E7 := endL_put (w1 := w7) (l' := m) T6 O3 (by assumption); exact ⟨_, q', rfl, rfl, E7⟩)
                   | (have E7 := endL_new (w1 := w7) (W := w3) (B := B) (l' := m) 31 hC3 (by omega) O3 (by assumption); exact ⟨_, q', rfl, rfl, E7⟩)))
          case rest =>
            obtain ⟨w3, rfl⟩ : ∃ z, z = wc := ⟨_, rfl⟩
            obtain ⟨kc, q', rfl, rfl, HE⟩ := hcut
            have H3 : Hid (g + 1 ≤ B ∧ B ≤ kc ∧ Has w3 kc (llL (i + 1) q') ∧ Has w3 g (llL i q) ∧ Has w3 kd [.int .i64 0, .int .i64 (r : Nat)] ∧ FOwn B w3 q'.lo (flatL m) ∧ (Below h w w3 ∧ h ≤ w3.heap.size)) := by
              have hb := HE.out.2.2.2
              have K := HS7.out.1.fit HB.out hb
              exact ⟨by omega, HE.out.1, HE.out.2.1, K.2.1, K.1, HE.out.2.2.1, K.base⟩
            have hkc : g < kc := by have := H3.out.2.1; omega
            clear HSr HB HE HS7 hz0 hzd hw1 hdl hev
            obtain ⟨t0, t1, t2, t3, t4, t5, t6, t7, t8, t9⟩ := H3.out.2.2.1.ten
            obtain ⟨y0, y1, y2, y3, y4, y5, y6, y7, y8, y9⟩ := H3.out.2.2.2.1.ten
            obtain ⟨z0, z1, z2, z3, z4, z5, z6, z7, z8, z9⟩ := H3.out.2.2.2.1.tenf
            have H4 : Hid (Regs h w (put10 w3 g (.int .i64 3) (.bool false) (.int .i64 0) (.int .i64 0) (.string ⟨#[]⟩) (.int .i64 0) (.int .i64 0) (.slice q'.eo 0 q'.ec) (.slice q'.lo (i + 1) q'.lc) (.slice q'.so 0 q'.sc)) [(g, llL (i + 1) q'), (kd, [.int .i64 0, .int .i64 (r : Nat)])] ∧ FOwn (g + 1) (put10 w3 g (.int .i64 3) (.bool false) (.int .i64 0) (.int .i64 0) (.string ⟨#[]⟩) (.int .i64 0) (.int .i64 0) (.slice q'.eo 0 q'.ec) (.slice q'.lo (i + 1) q'.lc) (.slice q'.so 0 q'.sc)) q'.lo (flatL m)) := by
              obtain ⟨h1, h2, h3, h4, h5, h7, h8⟩ := H3.out
              have K := roundL (L := [(kd, [.int .i64 0, .int .i64 (r : Nat)])]) (n' := i + 1) (q' := q') h4 ⟨h5, h8⟩ h7 HG.out (by omega) (fun e he => by
                simp only [List.mem_cons, List.not_mem_nil, or_false] at he
                subst he
                show kd ≠ g; omega)
              exact ⟨K.1, (h7.put10 (by omega) _ _ _ _ _ _ _ _ _ _).mono h1⟩
            go_upto_region 14 with (go_at_call 8; refine (num_any _ _).mono ?_; rintro e w0 ⟨rfl, hw0⟩; have hw1 := hw0.symm; clear hw0; subst hw1)
            dsimp only [put10] at H4
            clear t0 t1 t2 t3 t4 t5 t6 t7 t8 t9 y0 y1 y2 y3 y4 y5 y6 y7 y8 y9 z0 z1 z2 z3 z4 z5 z6 z7 z8 z9
            generalize hW : World.setCell _ (⟨g, 9, none⟩ : Addr) _ = w4 at H4 ⊢
            clear hW H3
            have c4 := HC.out _ H4.out.1.base.1
            have ht01 : t = 0 ∨ t = 1 := by omega
            rcases ht01 with rfl | rfl
            · have et : bits .and .i64 (pk / 1024) 1 = 0 := Het.out
              go_wp2
              go_roundg (gk - 1)
              case measure => omega
              case rel => exact ⟨i + 1, q', m, by omega, by go_num, ⟨H4.out.1.1, H4.out.1.2.2⟩, H4.out.2, HX.out.2.2.2.2.2.1, HX.out.2.2.2.2.2.2⟩
            · have et : bits .and .i64 (pk / 1024) 1 = 1 := Het.out
              obtain ⟨t0, t1, t2, t3, t4, t5, t6, t7, t8, t9⟩ := H4.out.1.1.ten
              obtain ⟨r0, r1⟩ := H4.out.1.2.1.two
              by_cases hr0 : 1 ≤ r
              · obtain ⟨m2, hm2, hF2⟩ := first_era HX.out.2.2.2.2.2.1 hr0 (by omega)
                have HY : Hid (eraL m (0, (r : Int)) = some m2 ∧ First (i + 1) m2 ∧ SmallX m2 ∧ i + 1 = m.length ∧ SmallX m) := ⟨hm2, hF2, smallX_era HX.out.2.2.2.2.2.2 hm2, HX.out.2.2.2.2.1, HX.out.2.2.2.2.2.2⟩
                clear hm2 hF2
                go_wp2_with fail
                refine (eras_yes (l := m) (q := q') (d := (0, (r : Int))) _ m2 (i + 1) HY.out.2.2.2.1 H4.out.2.row HY.out.2.2.2.2 HY.out.1).mono ?_
                rintro e v5 ⟨q3, rfl, o5, b5⟩
                obtain ⟨k5, ek5⟩ : ∃ k, v5.heap.size = k := ⟨_, rfl⟩
                have G5 : Hid (Regs h w (v5.alloc (.cells (llL (i + 1) q3).toArray 31)) [(k5, llL (i + 1) q3), (g, llL (i + 1) q')] ∧ FOwn (g + 1) (v5.alloc (.cells (llL (i + 1) q3).toArray 31)) q3.lo (flatL m2) ∧ g < k5) := by
                  have hal : Below v5.heap.size v5 (v5.alloc (.cells (llL (i + 1) q3).toArray 31)) := (Below.refl _ _).alloc (Nat.le_refl _) _
                  have R : Regs h w v5 [(g, llL (i + 1) q')] := ⟨(H4.out.1.later b5).1, (H4.out.1.later b5).2.2⟩
                  exact ⟨Regs.push R ek5 _ _, (o5.later hal).mono (by have := H4.out.1.1.1; omega), by have := R.1.1; omega⟩
                have hgk5 : g < k5 := G5.out.2.2
                clear b5 o5 H4 t0 t1 t2 t3 t4 t5 t6 t7 t8 t9 r0 r1 c4
                go_upto_region 16 with fail
                generalize hW : v5.alloc (.cells (llL (i + 1) q3).toArray 31) = v6 at G5 ⊢
                clear hW ek5
                obtain ⟨t0, t1, t2, t3, t4, t5, t6, t7, t8, t9⟩ := (show Has _ k5 (llL (i + 1) q3) from G5.out.1.1).ten
                obtain ⟨y0, y1, y2, y3, y4, y5, y6, y7, y8, y9⟩ := (show Has _ g (llL (i + 1) q') from G5.out.1.2.1).ten
                obtain ⟨z0, z1, z2, z3, z4, z5, z6, z7, z8, z9⟩ := (show Has _ g (llL (i + 1) q') from G5.out.1.2.1).tenf
                have H6 : Hid (Regs h w (put10 v6 g (.int .i64 3) (.bool false) (.int .i64 0) (.int .i64 0) (.string ⟨#[]⟩) (.int .i64 0) (.int .i64 0) (.slice q3.eo 0 q3.ec) (.slice q3.lo (i + 1) q3.lc) (.slice q3.so 0 q3.sc)) [(g, llL (i + 1) q3)] ∧ FOwn (g + 1) (put10 v6 g (.int .i64 3) (.bool false) (.int .i64 0) (.int .i64 0) (.string ⟨#[]⟩) (.int .i64 0) (.int .i64 0) (.slice q3.eo 0 q3.ec) (.slice q3.lo (i + 1) q3.lc) (.slice q3.so 0 q3.sc)) q3.lo (flatL m2)) := by
                  obtain ⟨⟨h1, h2, h3⟩, h5, _⟩ := G5.out
                  have K := roundL (B := g + 1) (L := []) (n' := i + 1) (q' := q3) h2 h3 h5 HG.out (by omega) (fun e he => by simp at he)
                  exact ⟨K.1, h5.put10 (by omega) _ _ _ _ _ _ _ _ _ _⟩
                clear G5
                go_wp2_with (go_at_call 8; refine (num_any _ _).mono ?_; rintro e w0 ⟨rfl, hw0⟩; have hw1 := hw0.symm; clear hw0; subst hw1)
                go_roundg (gk - 1)
                case measure => omega
                case rel => exact ⟨i + 1, q3, m2, by omega, by go_num, H6.out.1, H6.out.2, HY.out.2.1, HY.out.2.2.1⟩
              · have hm0 : eraL m (0, (r : Int)) = none := by
                  have e : (r : Int) = 0 := by omega
                  rw [e]
                  exact first_zero HX.out.2.2.2.2.2.1
                have HY : Hid (eraL m (0, (r : Int)) = none) := hm0
                clear hm0 hr0
                go_wp2_with fail
                refine (eras_rangeV (l := m) (q := q') (d := (0, (r : Int))) _ (i + 1) HX.out.2.2.2.2.1 H4.out.2.row HX.out.2.2.2.2.2.2 HY.out).mono ?_
                rintro e v5 ⟨kz, qz, rfl, b5⟩
                obtain ⟨k5, ek5⟩ : ∃ k, v5.heap.size = k := ⟨_, rfl⟩
                have G5 : Hid (Regs h w (v5.alloc (.cells ([.int .i64 kz, .bool false, .int .i64 0, .int .i64 0, .string ⟨#[]⟩, .int .i64 0, .int .i64 0, .slice qz.eo 0 qz.ec, .slice qz.lo 0 qz.lc, .slice qz.so 0 qz.sc]).toArray 31)) [(g, llL (i + 1) q')] ∧ FOwn (g + 1) (v5.alloc (.cells ([.int .i64 kz, .bool false, .int .i64 0, .int .i64 0, .string ⟨#[]⟩, .int .i64 0, .int .i64 0, .slice qz.eo 0 qz.ec, .slice qz.lo 0 qz.lc, .slice qz.so 0 qz.sc]).toArray 31)) q'.lo (flatL m)) := by
                  have hal : Below v5.heap.size v5 (v5.alloc (.cells ([.int .i64 kz, .bool false, .int .i64 0, .int .i64 0, .string ⟨#[]⟩, .int .i64 0, .int .i64 0, .slice qz.eo 0 qz.ec, .slice qz.lo 0 qz.lc, .slice qz.so 0 qz.sc]).toArray 31)) := (Below.refl _ _).alloc (Nat.le_refl _) _
                  exact ⟨Regs.later ⟨(H4.out.1.later b5).1, (H4.out.1.later b5).2.2⟩ hal, (H4.out.2.later b5).later hal⟩
                clear b5 H4 t0 t1 t2 t3 t4 t5 t6 t7 t8 t9 r0 r1 c4
                go_upto_region 16 with fail
                generalize hW : v5.alloc (.cells ([.int .i64 kz, .bool false, .int .i64 0, .int .i64 0, .string ⟨#[]⟩, .int .i64 0, .int .i64 0, .slice qz.eo 0 qz.ec, .slice qz.lo 0 qz.lc, .slice qz.so 0 qz.sc]).toArray 31) = v6 at G5 ⊢
                clear hW ek5
                go_wp2_with (go_at_call 8; refine (num_any _ _).mono ?_; rintro e w0 ⟨rfl, hw0⟩; have hw1 := hw0.symm; clear hw0; subst hw1)
                go_roundg (gk - 1)
                case measure => omega
                case rel => exact ⟨i + 1, q', m, by omega, by go_num, G5.out.1, G5.out.2, HX.out.2.2.2.2.2.1, HX.out.2.2.2.2.2.2⟩
      · have HD : ¬ i < ps.length ∨ i < ps.length ∧ ¬ i < 20 := by
          rcases hP3.out with h | h
          · exact Or.inl (by omega)
          · by_cases h2 : i < ps.length
            · exact Or.inr ⟨h2, by omega⟩
            · exact Or.inl h2
        rcases HD with hlen | ⟨hlen, hd2⟩
        all_goals
          (go_wp2_with fail
           go_meet
           case rel => exact ⟨i, q, l, by omega, rfl, HF.out⟩)
  case rest =>
    obtain ⟨w4, rfl⟩ : ∃ z, z = wc := ⟨_, rfl⟩
    obtain ⟨N, q, l, hN, rfl, HF⟩ := hcut
    clear L0 hP1 hP2 hP3 HP
    obtain ⟨t0, t1, t2, t3, t4, t5, t6, t7, t8, t9⟩ := HF.out.1.1.ten
    obtain ⟨n2, hn2⟩ : ∃ n, (liveL l).length = n := ⟨_, rfl⟩
    have HY : Hid (n2 = (liveL l).length ∧ N = l.length ∧ SmallX l ∧ Mk 0 l) := ⟨hn2.symm, HF.out.2.2.1.len.symm, HF.out.2.2.2, mk_start HF.out.2.2.1 HF.out.2.2.2 hN⟩
    clear hn2
    go_wp2_with fail
    refine (coms_yes (l := l) (q := q) _ (liveL l) N n2 HY.out.2.1 HF.out.2.1.row HY.out.2.2.1 rfl HY.out.1).mono ?_
    rintro e x2 ⟨q2, rfl, o2, b2⟩
    obtain ⟨g2, ek2⟩ : ∃ k, x2.heap.size = k := ⟨_, rfl⟩
    have hgg : g < g2 := by rw [← ek2]; exact (HF.out.1.later b2).1.1
    have G0 : Hid (M2 w h g g2 0 N n2 q q2 l (x2.alloc (.cells (llL n2 q2).toArray 31))) := by
      have hal : Below x2.heap.size x2 (x2.alloc (.cells (llL n2 q2).toArray 31)) := (Below.refl _ _).alloc (Nat.le_refl _) _
      have R := HF.out.1.later b2
      have Rp := Regs.push R ek2 (llL n2 q2) 31
      exact ⟨⟨Rp.2.1, Rp.1, Rp.2.2⟩, (RowC.of_old (HF.out.2.1.later b2) (by omega) (by omega)).later hal, (RowC.of_old (o2.mono (by have := HF.out.1.1.1; omega : g + 1 ≤ _)) (by omega) (by omega)).later hal, HY.out.2.2.2, HY.out.2.1, HY.out.1⟩
    clear b2 o2 HF HY t0 t1 t2 t3 t4 t5 t6 t7 t8 t9
    go_upto_region 19 with fail
    generalize hW : x2.alloc (.cells (llL n2 q2).toArray 31) = x3 at G0 ⊢
    clear hW ek2
    go_wp2_with (go_at_call 8; refine (num_any _ _).mono ?_; rintro e w0 ⟨rfl, hw0⟩; have hw1 := hw0.symm; clear hw0; subst hw1)
    go_loopg [14, 15, 16, 17, 18, 19, 20, 21, 22, 23, 24, 25, 26, 27] Q (fun m s14 _ _ _ _ _ _ _ _ _ _ _ _ _ wr => ∃ (i n n2 : Nat) (q q2 : Pl) (l : List L5), i + m = Q ∧ s14 = .int .i64 (i : Nat) ∧ Hid (M2 w h g g2 i n n2 q q2 l wr))
    case atStart => exact ⟨0, N, n2, q, q2, l, by omega, rfl, G0.out⟩
    case round =>
      clear G0 hN
      obtain ⟨i, n, n2, q, q2, l, him, rfl, HS⟩ := hrel
      by_cases hi : i < Q
      · have hi20 : i < 20 := by omega
        have hiq : i < qs.length := by omega
        obtain ⟨pb, po, rfl, hpb, hpc⟩ := HP2.out (by rw [flatI_len]; omega)
        obtain ⟨pk, hpk⟩ : ∃ p, qs.getD i 0 = p := ⟨_, rfl⟩
        have hPB : Hid (pb < h) := by rw [← HH.out]; exact hpb
        have HC : Hid (∀ W, Below h w W → W.cell? ⟨pb, po + i, none⟩ = some (.int .i64 pk)) := fun W hW => (hW.cell (p := ⟨pb, po + i, none⟩) (by rw [← HH.out]; exact hpb)).trans (hpc _ _ (by
          have h5 : qs[i]? = some qs[i] := List.getElem?_eq_getElem hiq
          rw [flatI_at qs i h5, ← hpk]
          simp [List.getD, h5]))
        obtain ⟨k, hk15, ek⟩ : ∃ z : Nat, z < 16 ∧ bits .and .i64 pk 15 = (z : Int) := and_mask pk 4 (by omega)
        obtain ⟨b, hb2, eb⟩ : ∃ z : Nat, z < 2 ∧ bits .and .i64 (pk / 16) 1 = (z : Int) := and_mask (pk / 16) 1 (by omega)
        have Hek : Hid (bits .and .i64 pk 15 = (k : Int)) := ek
        have Heb : Hid (bits .and .i64 (pk / 16) 1 = (b : Int)) := eb
        obtain ⟨t, ht⟩ : ∃ t, i / 2 = t := ⟨_, rfl⟩
        have et0 : Int.tdiv (i : Int) 2 = (t : Int) := by
          rw [Int.tdiv_eq_ediv_of_nonneg (by omega)]
          omega
        have Ht : Hid (Int.tdiv (i : Int) 2 = (t : Int)) := et0
        clear et0
        have ht20 : t < 20 := by omega
        obtain ⟨v, hev⟩ : ∃ v, ((⟨#[122]⟩ : ByteArray) ++ (⟨(Lib.decDigits i).toArray⟩ : ByteArray)) = v := ⟨_, rfl⟩
        have hvs : v.size ≤ 256 := hev ▸ val_size1 122 (by omega)
        have Hv : Hid (((⟨#[122]⟩ : ByteArray) ++ (⟨(Lib.decDigits i).toArray⟩ : ByteArray)) = v) := hev
        obtain ⟨row, hrow⟩ : ∃ r, valsX l = r := ⟨_, rfl⟩
        obtain ⟨nr, hnr⟩ : ∃ r, row.length = r := ⟨_, rfl⟩
        have hnr40 : nr ≤ 40 := by
          have h1 := HS.out.2.2.2.1.len
          have h2 := valsX_le l
          rw [hrow, hnr] at h2
          omega
        obtain ⟨d1, d2, m, HX⟩ : ∃ d1 d2 m, Hid ((k < nr → atX l k = some (d1, d2)) ∧ (¬ k < nr → d1 = 0 ∧ d2 = 0) ∧ okX l ⟨(b : Int), 30 + (i : Int), 30 + (t : Int), v, false⟩ = true ∧ okX (liveL l) ⟨(b : Int), 30 + (i : Int), 30 + (t : Int), v, false⟩ = true
            ∧ insL l ⟨(b : Int), 30 + (i : Int), 30 + (t : Int), v, false⟩ (d1, d2) = some m ∧ insL (liveL l) ⟨(b : Int), 30 + (i : Int), 30 + (t : Int), v, false⟩ (d1, d2) = some (liveL m) ∧ Mk (i + 1) m) := by
          obtain ⟨d1, d2, m, h1, h2, h3⟩ := mk_step (k := k) (v := v) HS.out.2.2.2.1 hb2 hi20 ht20 hvs
          rw [hrow, hnr] at h1 h2
          exact ⟨d1, d2, m, h1, h2, h3⟩
        obtain ⟨nm, hnm⟩ : ∃ r, m.length = r := ⟨_, rfl⟩
        obtain ⟨nm2, hnm2⟩ : ∃ r, (liveL m).length = r := ⟨_, rfl⟩
        have HE1 : Hid (valsX l = row ∧ SmallX l ∧ n = l.length ∧ row.length = nr ∧ n2 = (liveL l).length ∧ nm = m.length ∧ nm2 = (liveL m).length) := ⟨hrow, HS.out.2.2.2.1.small, HS.out.2.2.2.2.1, hnr, HS.out.2.2.2.2.2, hnm.symm, hnm2.symm⟩
        have HE0 : Hid (M3 w h g g2 n n2 q q2 l [] wr) := ⟨HS.out.1, HS.out.2.1, HS.out.2.2.1⟩
        clear hpc hpk hpb HS eb hev hrow hnr hnm hnm2 ht
        have hd1 : decide ((i : Int) < (qs.length : Int)) = true := by simp; omega
        have hd2 : decide ((i : Int) < 20) = true := by simp; omega
        obtain ⟨t0, t1, t2, t3, t4, t5, t6, t7, t8, t9⟩ := (show Has _ g (llL n q) from HE0.out.1.1).ten
        go_wp2_with fail
        refine (valx_yes (l := l) (q := q) _ row n nr HE1.out.2.2.1 HE0.out.2.1.row HE1.out.2.1 HE1.out.1 HE1.out.2.2.2.1.symm).mono ?_
        rintro e x1 ⟨vo, cv, rfl, o1, b1⟩
        have G1 : Hid (M3 w h g g2 n n2 q q2 l [] x1 ∧ FRow x1 vo (flatT row)) := ⟨HE0.out.later b1, o1.row⟩
        clear b1 o1 HE0 t0 t1 t2 t3 t4 t5 t6 t7 t8 t9
        obtain ⟨t0, t1, t2, t3, t4, t5, t6, t7, t8, t9⟩ := (show Has _ g2 (llL n2 q2) from G1.out.1.1.2.1).ten
        go_wp2_with fail
        refine (valx_yes (l := liveL l) (q := q2) _ row n2 nr HE1.out.2.2.2.2.1 G1.out.1.2.2.row (smallX_live HE1.out.2.1) (by unfold valsX; rw [live_live]; exact HE1.out.1) HE1.out.2.2.2.1.symm).mono ?_
        rintro e x2 ⟨vp, cw, rfl, o2, b2⟩
        have G2 : Hid (M3 w h g g2 n n2 q q2 l [] x2 ∧ FRow x2 vo (flatT row) ∧ FRow x2 vp (flatT row)) := ⟨G1.out.1.later b2, G1.out.2.later b2, o2.row⟩
        clear b2 o2 G1 t0 t1 t2 t3 t4 t5 t6 t7 t8 t9
        go_wp2_with (go_at_call 8; refine (num_any _ _).mono ?_; rintro e w0 ⟨rfl, hw0⟩; have hw1 := hw0.symm; clear hw0; subst hw1)
        refine (tsM vo vp cv cw row _ HE1.out.2.2.2.1.symm G2.out.2.1 G2.out.2.2 (by unfold maxLen; omega)).mono ?_
        rintro e x5 ⟨rfl, b5⟩
        have G5 : Hid (M3 w h g g2 n n2 q q2 l [] x5) := G2.out.1.later b5
        clear b5 G2
        obtain ⟨kd, ekd⟩ : ∃ kd, x5.heap.size = kd := ⟨_, rfl⟩
        have hgk : g < kd := by rw [← ekd]; exact G5.out.1.1.1
        have hgk2 : g2 < kd := by rw [← ekd]; exact G5.out.1.2.1.1
        have c0 := HC.out (x5.alloc (.cells #[.int .i64 0, .int .i64 0] 33)) ((G5.out.1.base.1).alloc G5.out.1.base.2 _)
        by_cases hkn : k < nr
        · have HA : Hid (atNum l (k : Int) = ((d1, d2), 0)) := atM_num (HX.out.1 hkn)
          have G0 : Hid (M3 w h g g2 n n2 q q2 l [(kd, [.int .i64 0, .int .i64 0])] (x5.alloc (.cells #[.int .i64 0, .int .i64 0] 33)) ∧ Below kd x5 (x5.alloc (.cells #[.int .i64 0, .int .i64 0] 33))) := ⟨G5.out.push ekd [.int .i64 0, .int .i64 0] _, (Below.refl _ _).alloc (by omega) _⟩
          have HK0 : Hid (x5.heap.size = kd ∧ M3 w h g g2 n n2 q q2 l [] x5) := ⟨ekd, G5.out⟩
          clear G5
          go_upto_region 31 with fail
          generalize hW : x5.alloc (.cells #[.int .i64 0, .int .i64 0] 33) = v0 at G0 ⊢
          clear hW ekd c0 ek
          obtain ⟨t0, t1, t2, t3, t4, t5, t6, t7, t8, t9⟩ := (show Has _ g (llL n q) from G0.out.1.1.1).ten
          go_wp2_with fail
          refine (ats_any _ (k : Int) n (d1, d2) 0 HE1.out.2.2.1 G0.out.1.2.1.row HE1.out.2.1 HA.out).mono ?_
          rintro e v1 ⟨rfl, b1⟩
          obtain ⟨ka, eka⟩ : ∃ k, v1.heap.size = k := ⟨_, rfl⟩
          have G1 : Hid (M3 w h g g2 n n2 q q2 l [(ka, [.int .i64 d1, .int .i64 d2]), (kd, [.int .i64 0, .int .i64 0])] (v1.alloc (.cells #[.int .i64 d1, .int .i64 d2] 33)) ∧ kd < ka ∧ Below kd x5 (v1.alloc (.cells #[.int .i64 d1, .int .i64 d2] 33))) := by
            have R := G0.out.1.later b1
            have hs : kd < v1.heap.size := R.1.2.2.1.1
            exact ⟨R.push eka [.int .i64 d1, .int .i64 d2] _, by omega, (G0.out.2.trans (b1.mono (by have := G0.out.1.1.2.2.1.1; omega))).alloc (by omega) _⟩
          have hka : kd < ka := G1.out.2.1
          clear b1 G0 t0 t1 t2 t3 t4 t5 t6 t7 t8 t9
          go_upto_region 32 with fail
          generalize hW : v1.alloc (.cells #[.int .i64 d1, .int .i64 d2] 33) = v2 at G1 ⊢
          clear hW eka
          obtain ⟨r0, r1⟩ := (show Has _ ka [.int .i64 d1, .int .i64 d2] from G1.out.1.1.2.2.1).two
          obtain ⟨s0, s1⟩ := (show Has _ kd [.int .i64 0, .int .i64 0] from G1.out.1.1.2.2.2.1).two
          have f0 := (show Has _ kd [.int .i64 0, .int .i64 0] from G1.out.1.1.2.2.2.1).free 0 rfl
          have f1 := (show Has _ kd [.int .i64 0, .int .i64 0] from G1.out.1.1.2.2.2.1).free 1 rfl
          have HS7 : Hid (M3 w h g g2 n n2 q q2 l [(kd, [.int .i64 d1, .int .i64 d2])] ((v2.setCell ⟨kd, 0, none⟩ (.int .i64 d1)).setCell ⟨kd, 1, none⟩ (.int .i64 d2))) := by
            obtain ⟨⟨⟨h1, h2, h3, h4, h5⟩, h6, h7⟩, _, h8⟩ := G1.out
            have hb : Below kd x5 ((v2.setCell ⟨kd, 0, none⟩ (.int .i64 d1)).setCell ⟨kd, 1, none⟩ (.int .i64 d2)) := (h8.setCell (p := ⟨kd, 0, none⟩) (Nat.le_refl _) _).setCell (p := ⟨kd, 1, none⟩) (Nat.le_refl _) _
            have K : M3 w h g g2 n n2 q q2 l [] ((v2.setCell ⟨kd, 0, none⟩ (.int .i64 d1)).setCell ⟨kd, 1, none⟩ (.int .i64 d2)) := HK0.out.2.later (by rw [HK0.out.1]; exact hb)
            exact ⟨⟨K.1.1, K.1.2.1, (h4.put 0 _).put 1 _, K.1.2.2.1, K.1.2.2.2⟩, K.2.1, K.2.2⟩
          clear G1
          go_upto_region 35 with (go_at_call 8; refine (num_any _ _).mono ?_; rintro e w0 ⟨rfl, hw0⟩; have hw1 := hw0.symm; clear hw0; subst hw1)
          generalize hW : (v2.setCell ⟨kd, 0, none⟩ (.int .i64 d1)).setCell ⟨kd, 1, none⟩ (.int .i64 d2) = w7 at HS7 ⊢
          clear hW r0 r1 s0 s1 f0 f1 hka HK0 hkn
          obtain ⟨B, hB⟩ : ∃ B, w7.heap.size = B := ⟨_, rfl⟩
          have hgB : g < B := by rw [← hB]; exact HS7.out.1.1.1
          have hgB2 : g2 < B := by rw [← hB]; exact HS7.out.1.2.1.1
          have hkB : kd < B := by rw [← hB]; exact (show Has _ kd [.int .i64 d1, .int .i64 d2] from HS7.out.1.2.2.1).1
          have HSr : Hid (SrcE w7 B pb (po + i) (.int .i64 pk)) := ⟨hB, by have := HS7.out.1.base.2; have := hPB.out; omega, HC.out _ HS7.out.1.base.1⟩
          have HB : Hid (w7.heap.size = B) := hB
          have hz0 : B ≤ w7.heap.size := by omega
          have hzd : B ≤ w7.drew.heap.size := hz0
          have eb : bits .and .i64 (pk / 16) 1 = (b : Int) := Heb.out
          have hev : ((⟨#[122]⟩ : ByteArray) ++ (⟨(Lib.decDigits i).toArray⟩ : ByteArray)) = v := Hv.out
          have et : Int.tdiv (i : Int) 2 = (t : Int) := Ht.out
          have hdl := dec_len20 i (by omega)
          have hsum1 : ¬ (9223372036854775807 < 1 + (Lib.decDigits i).length) := by omega
          have hsum2 : ¬ (9223372036854775807 < (⟨#[122]⟩ : ByteArray).size + (⟨(Lib.decDigits i).toArray⟩ : ByteArray).size) := by rw [← ByteArray.size_append, hev]; omega
          have hw1 : IntKind.i64.wrap (30 + (i : Int)) = 30 + (i : Int) := by rw [IntKind.wrap_i64]; omega
          have hw2 : IntKind.i64.wrap (30 + (t : Int)) = 30 + (t : Int) := by rw [IntKind.wrap_i64]; omega
          have hw3 : IntKind.i64.wrap (t : Int) = (t : Int) := by rw [IntKind.wrap_i64]; omega
          clear hB
          go_cut [23] from 154 to 168 (fun p wx => ∃ ke : Nat, p = .pointer (some ⟨ke, 0, none⟩) ∧ Hid (EndE w7 B ke (.int .i64 (b : Int)) (.int .i64 (30 + (i : Int))) (.int .i64 (30 + (t : Int))) (.string v) (.bool false) wx))
          case first =>
            go_region_held3 (HeldE w7 B pb (po + i) (.int .i64 pk)) (first | (with_reducible apply heldE_later HSr.out hb2; assumption) | with_reducible apply heldE_put HSr.out T6 (by assumption) | (with_reducible apply heldE_swap HSr.out (by omega) (by assumption)) | (with_reducible exact heldE_drew HSr.out) | (with_reducible exact heldE_first HSr.out _) | (with_reducible apply heldE_alloc HSr.out _ (by assumption)))
              (first
                | (go_at_call 7; with_reducible refine (deci_any i _ (by omega)).mono ?_; rintro r w3 ⟨rfl, hb2⟩; have hz := hb2.size; first | (with_reducible have T6 := fiveE_newd (B := B) (by omega) hb2; obtain ⟨y0, y1, y2, y3, y4⟩ := fiveE_five T6; obtain ⟨z0, z1, z2, z3, z4⟩ := fiveE_fivef T6) | (with_reducible have T6 := fiveE_new (B := B) (by omega) hb2; obtain ⟨y0, y1, y2, y3, y4⟩ := fiveE_five T6; obtain ⟨z0, z1, z2, z3, z4⟩ := fiveE_fivef T6) | (with_reducible replace T6 := fiveE_later T6 hb2; obtain ⟨y0, y1, y2, y3, y4⟩ := fiveE_five T6; obtain ⟨z0, z1, z2, z3, z4⟩ := fiveE_fivef T6) | skip)
                | (go_at_call 6; with_reducible refine (elem_any _ _ _ _ _).mono ?_; rintro r w3 ⟨rfl, hb2⟩; have hz := hb2.size; first | (with_reducible have T6 := fiveE_newd (B := B) (by omega) hb2; obtain ⟨y0, y1, y2, y3, y4⟩ := fiveE_five T6; obtain ⟨z0, z1, z2, z3, z4⟩ := fiveE_fivef T6) | (with_reducible have T6 := fiveE_new (B := B) (by omega) hb2; obtain ⟨y0, y1, y2, y3, y4⟩ := fiveE_five T6; obtain ⟨z0, z1, z2, z3, z4⟩ := fiveE_fivef T6) | (with_reducible replace T6 := fiveE_later T6 hb2; obtain ⟨y0, y1, y2, y3, y4⟩ := fiveE_five T6; obtain ⟨z0, z1, z2, z3, z4⟩ := fiveE_fivef T6) | skip))
            all_goals
              (go_wp2_with fail
               go_meet
               case rel =>
                 (first
                   | (have E7 := endE_put (w1 := w7) T6 (by assumption); exact ⟨_, rfl, E7⟩)
                   | (have E7 := endE_new (w1 := w7) (W := w3) (B := B) 38 (by omega) (by assumption); exact ⟨_, rfl, E7⟩)))
          case rest =>
            obtain ⟨w8, rfl⟩ : ∃ z, z = wc := ⟨_, rfl⟩
            obtain ⟨ke, rfl, HE⟩ := hcut
            have H8 : Hid (M3 w h g g2 n n2 q q2 l [(kd, [.int .i64 d1, .int .i64 d2]), (ke, [.int .i64 (b : Int), .int .i64 (30 + (i : Int)), .int .i64 (30 + (t : Int)), .string v, .bool false])] w8) := by
              have K := HS7.out.later (HB.out.symm ▸ HE.out.2.2)
              exact ⟨⟨K.1.1, K.1.2.1, K.1.2.2.1, HE.out.2.1, K.1.2.2.2⟩, K.2.1, K.2.2⟩
            clear HSr HB HE HS7 hz0 hzd hw1 hw2 hw3 hdl hev et eb hsum1 hsum2
            obtain ⟨t0, t1, t2, t3, t4, t5, t6, t7, t8, t9⟩ := (show Has _ g (llL n q) from H8.out.1.1).ten
            obtain ⟨s0, s1⟩ := (show Has _ kd [.int .i64 d1, .int .i64 d2] from H8.out.1.2.2.1).two
            obtain ⟨r0, r1, r2, r3, r4⟩ := (show Has _ ke [.int .i64 (b : Int), .int .i64 (30 + (i : Int)), .int .i64 (30 + (t : Int)), .string v, .bool false] from H8.out.1.2.2.2.1).five
            go_wp2_with fail
            refine (inss_yes (l := l) (q := q) (e := ⟨(b : Int), 30 + (i : Int), 30 + (t : Int), v, false⟩) (d := (d1, d2)) _ m n nm HE1.out.2.2.1 H8.out.2.1.row HE1.out.2.1 HX.out.2.2.1 HX.out.2.2.2.2.1 HE1.out.2.2.2.2.2.1).mono ?_
            rintro e y1 ⟨p1, rfl, o1, b1⟩
            obtain ⟨k1, ek1⟩ : ∃ k, y1.heap.size = k := ⟨_, rfl⟩
            have H9 : Hid (M3 w h g g2 n n2 q q2 l [(k1, llL nm p1), (kd, [.int .i64 d1, .int .i64 d2]), (ke, [.int .i64 (b : Int), .int .i64 (30 + (i : Int)), .int .i64 (30 + (t : Int)), .string v, .bool false])] (y1.alloc (.cells (llL nm p1).toArray 31)) ∧ RowC g g2 (y1.alloc (.cells (llL nm p1).toArray 31)) p1.lo (flatL m)) := by
              have hal : Below y1.heap.size y1 (y1.alloc (.cells (llL nm p1).toArray 31)) := (Below.refl _ _).alloc (Nat.le_refl _) _
              exact ⟨(H8.out.later b1).push ek1 _ _, (RowC.of_own o1 H8.out.1.1.1 H8.out.1.2.1.1).later hal⟩
            have hg1 : g < k1 := by rw [← ek1]; exact (H8.out.later b1).1.1.1
            have hg12 : g2 < k1 := by rw [← ek1]; exact (H8.out.later b1).1.2.1.1
            clear b1 o1 H8 t0 t1 t2 t3 t4 t5 t6 t7 t8 t9 s0 s1 r0 r1 r2 r3 r4
            go_upto_region 37 with fail
            generalize hW : y1.alloc (.cells (llL nm p1).toArray 31) = y2 at H9 ⊢
            clear hW ek1
            obtain ⟨t0, t1, t2, t3, t4, t5, t6, t7, t8, t9⟩ := (show Has _ g2 (llL n2 q2) from H9.out.1.1.2.1).ten
            obtain ⟨s0, s1⟩ := (show Has _ kd [.int .i64 d1, .int .i64 d2] from H9.out.1.1.2.2.2.1).two
            obtain ⟨r0, r1, r2, r3, r4⟩ := (show Has _ ke [.int .i64 (b : Int), .int .i64 (30 + (i : Int)), .int .i64 (30 + (t : Int)), .string v, .bool false] from H9.out.1.1.2.2.2.2.1).five
            go_wp2_with fail
            refine (inss_yes (l := liveL l) (q := q2) (e := ⟨(b : Int), 30 + (i : Int), 30 + (t : Int), v, false⟩) (d := (d1, d2)) _ (liveL m) n2 nm2 HE1.out.2.2.2.2.1 H9.out.1.2.2.row (smallX_live HE1.out.2.1) HX.out.2.2.2.1 HX.out.2.2.2.2.2.1 HE1.out.2.2.2.2.2.2).mono ?_
            rintro e y3 ⟨p2, rfl, o3, b3⟩
            obtain ⟨k2, ek2⟩ : ∃ k, y3.heap.size = k := ⟨_, rfl⟩
            have H10 : Hid (Regs h w (y3.alloc (.cells (llL nm2 p2).toArray 31)) [(k2, llL nm2 p2), (k1, llL nm p1), (g, llL n q), (g2, llL n2 q2)] ∧ RowC g g2 (y3.alloc (.cells (llL nm2 p2).toArray 31)) p1.lo (flatL m) ∧ RowC g g2 (y3.alloc (.cells (llL nm2 p2).toArray 31)) p2.lo (flatL (liveL m))) := by
              have hal : Below y3.heap.size y3 (y3.alloc (.cells (llL nm2 p2).toArray 31)) := (Below.refl _ _).alloc (Nat.le_refl _) _
              obtain ⟨h1, h2, h3, h4, h5, h6⟩ := (H9.out.1.later b3).1
              have R : Regs h w y3 [(k1, llL nm p1), (g, llL n q), (g2, llL n2 q2)] := ⟨h3, h1, h2, h6⟩
              exact ⟨R.push ek2 _ _, (H9.out.2.later b3).later hal, (RowC.of_own o3 H9.out.1.1.1.1 H9.out.1.1.2.1.1).later hal⟩
            have hg2 : g < k2 ∧ g2 < k2 ∧ k1 < k2 := by
              have h1 := (H9.out.1.later b3).1
              have h2 : k1 < y3.heap.size := h1.2.2.1.1
              omega
            obtain ⟨hgk3, hgk4, hgk5⟩ := hg2
            clear b3 o3 H9 t0 t1 t2 t3 t4 t5 t6 t7 t8 t9 s0 s1 r0 r1 r2 r3 r4
            go_upto_region 38 with fail
            generalize hW : y3.alloc (.cells (llL nm2 p2).toArray 31) = y4 at H10 ⊢
            clear hW ek2
            obtain ⟨t0, t1, t2, t3, t4, t5, t6, t7, t8, t9⟩ := (show Has _ k1 (llL nm p1) from H10.out.1.2.1).ten
            obtain ⟨u0, u1, u2, u3, u4, u5, u6, u7, u8, u9⟩ := (show Has _ g (llL n q) from H10.out.1.2.2.1).ten
            obtain ⟨z0, z1, z2, z3, z4, z5, z6, z7, z8, z9⟩ := (show Has _ g (llL n q) from H10.out.1.2.2.1).tenf
            have H11 : Hid (Regs h w (put10 y4 g (.int .i64 3) (.bool false) (.int .i64 0) (.int .i64 0) (.string ⟨#[]⟩) (.int .i64 0) (.int .i64 0) (.slice p1.eo 0 p1.ec) (.slice p1.lo nm p1.lc) (.slice p1.so 0 p1.sc)) [(g, llL nm p1), (k2, llL nm2 p2), (g2, llL n2 q2)] ∧ RowC g g2 (put10 y4 g (.int .i64 3) (.bool false) (.int .i64 0) (.int .i64 0) (.string ⟨#[]⟩) (.int .i64 0) (.int .i64 0) (.slice p1.eo 0 p1.ec) (.slice p1.lo nm p1.lc) (.slice p1.so 0 p1.sc)) p1.lo (flatL m) ∧ RowC g g2 (put10 y4 g (.int .i64 3) (.bool false) (.int .i64 0) (.int .i64 0) (.string ⟨#[]⟩) (.int .i64 0) (.int .i64 0) (.slice p1.eo 0 p1.ec) (.slice p1.lo nm p1.lc) (.slice p1.so 0 p1.sc)) p2.lo (flatL (liveL m))) := by
              obtain ⟨⟨h1, h2, h3, h4, h5⟩, h6, h7⟩ := H10.out
              have K := roundL (B := g + 1) (L := [(k2, llL nm2 p2), (g2, llL n2 q2)]) (n' := nm) (q' := p1) (l' := []) h3 ⟨h1, h4, h5⟩ (FOwn.nil _ _ _) HG.out (by omega) (fun e he => by
                simp only [List.mem_cons, List.not_mem_nil, or_false] at he
                rcases he with rfl | rfl
                · show k2 ≠ g; omega
                · show g2 ≠ g; omega)
              exact ⟨K.1, h6.put10 (Or.inl rfl) _ _ _ _ _ _ _ _ _ _, h7.put10 (Or.inl rfl) _ _ _ _ _ _ _ _ _ _⟩
            go_upto_region 41 with (go_at_call 8; refine (num_any _ _).mono ?_; rintro e w0 ⟨rfl, hw0⟩; have hw1 := hw0.symm; clear hw0; subst hw1)
            dsimp only [put10] at H11
            clear t0 t1 t2 t3 t4 t5 t6 t7 t8 t9 u0 u1 u2 u3 u4 u5 u6 u7 u8 u9 z0 z1 z2 z3 z4 z5 z6 z7 z8 z9
            generalize hW : World.setCell _ (⟨g, 9, none⟩ : Addr) _ = y5 at H11 ⊢
            clear hW H10
            obtain ⟨t0, t1, t2, t3, t4, t5, t6, t7, t8, t9⟩ := (show Has _ k2 (llL nm2 p2) from H11.out.1.2.1).ten
            obtain ⟨u0, u1, u2, u3, u4, u5, u6, u7, u8, u9⟩ := (show Has _ g2 (llL n2 q2) from H11.out.1.2.2.1).ten
            obtain ⟨z0, z1, z2, z3, z4, z5, z6, z7, z8, z9⟩ := (show Has _ g2 (llL n2 q2) from H11.out.1.2.2.1).tenf
            have H12 : Hid (M2 w h g g2 (i + 1) nm nm2 p1 p2 m (put10 y5 g2 (.int .i64 3) (.bool false) (.int .i64 0) (.int .i64 0) (.string ⟨#[]⟩) (.int .i64 0) (.int .i64 0) (.slice p2.eo 0 p2.ec) (.slice p2.lo nm2 p2.lc) (.slice p2.so 0 p2.sc))) := by
              obtain ⟨⟨h1, h2, h3, h4⟩, h6, h7⟩ := H11.out
              have K := roundL (B := g2 + 1) (L := [(g, llL nm p1)]) (n' := nm2) (q' := p2) (l' := []) h3 ⟨h1, h4⟩ (FOwn.nil _ _ _) (by have := HG.out; omega) (by omega) (fun e he => by
                simp only [List.mem_cons, List.not_mem_nil, or_false] at he
                subst he
                show g ≠ g2; omega)
              exact ⟨⟨K.1.2.1, K.1.1, K.1.2.2⟩, h6.put10 (Or.inr rfl) _ _ _ _ _ _ _ _ _ _, h7.put10 (Or.inr rfl) _ _ _ _ _ _ _ _ _ _, HX.out.2.2.2.2.2.2, HE1.out.2.2.2.2.2.1, HE1.out.2.2.2.2.2.2⟩
            clear H11
            go_wp2
            dsimp only [put10] at H12
            go_roundg (gk - 1)
            case measure => omega
            case rel => exact ⟨i + 1, nm, nm2, p1, p2, m, by omega, by go_num, H12.out⟩
        · obtain ⟨rfl, rfl⟩ := HX.out.2.1 hkn
          have HS7 : Hid (M3 w h g g2 n n2 q q2 l [(kd, [.int .i64 0, .int .i64 0])] (x5.alloc (.cells #[.int .i64 0, .int .i64 0] 33))) := G5.out.push ekd [.int .i64 0, .int .i64 0] _
          clear G5
          go_upto_region 35 with fail
          generalize hW : x5.alloc (.cells #[.int .i64 0, .int .i64 0] 33) = w7 at HS7 ⊢
          clear hW ekd c0 ek hkn
          obtain ⟨B, hB⟩ : ∃ B, w7.heap.size = B := ⟨_, rfl⟩
          have hgB : g < B := by rw [← hB]; exact HS7.out.1.1.1
          have hgB2 : g2 < B := by rw [← hB]; exact HS7.out.1.2.1.1
          have hkB : kd < B := by rw [← hB]; exact (show Has _ kd [.int .i64 0, .int .i64 0] from HS7.out.1.2.2.1).1
          have HSr : Hid (SrcE w7 B pb (po + i) (.int .i64 pk)) := ⟨hB, by have := HS7.out.1.base.2; have := hPB.out; omega, HC.out _ HS7.out.1.base.1⟩
          have HB : Hid (w7.heap.size = B) := hB
          have hz0 : B ≤ w7.heap.size := by omega
          have hzd : B ≤ w7.drew.heap.size := hz0
          have eb : bits .and .i64 (pk / 16) 1 = (b : Int) := Heb.out
          have hev : ((⟨#[122]⟩ : ByteArray) ++ (⟨(Lib.decDigits i).toArray⟩ : ByteArray)) = v := Hv.out
          have et : Int.tdiv (i : Int) 2 = (t : Int) := Ht.out
          have hdl := dec_len20 i (by omega)
          have hsum1 : ¬ (9223372036854775807 < 1 + (Lib.decDigits i).length) := by omega
          have hsum2 : ¬ (9223372036854775807 < (⟨#[122]⟩ : ByteArray).size + (⟨(Lib.decDigits i).toArray⟩ : ByteArray).size) := by rw [← ByteArray.size_append, hev]; omega
          have hw1 : IntKind.i64.wrap (30 + (i : Int)) = 30 + (i : Int) := by rw [IntKind.wrap_i64]; omega
          have hw2 : IntKind.i64.wrap (30 + (t : Int)) = 30 + (t : Int) := by rw [IntKind.wrap_i64]; omega
          have hw3 : IntKind.i64.wrap (t : Int) = (t : Int) := by rw [IntKind.wrap_i64]; omega
          clear hB
          go_cut [23] from 154 to 168 (fun p wx => ∃ ke : Nat, p = .pointer (some ⟨ke, 0, none⟩) ∧ Hid (EndE w7 B ke (.int .i64 (b : Int)) (.int .i64 (30 + (i : Int))) (.int .i64 (30 + (t : Int))) (.string v) (.bool false) wx))
          case first =>
            go_region_held3 (HeldE w7 B pb (po + i) (.int .i64 pk)) (first | (with_reducible apply heldE_later HSr.out hb2; assumption) | with_reducible apply heldE_put HSr.out T6 (by assumption) | (with_reducible apply heldE_swap HSr.out (by omega) (by assumption)) | (with_reducible exact heldE_drew HSr.out) | (with_reducible exact heldE_first HSr.out _) | (with_reducible apply heldE_alloc HSr.out _ (by assumption)))
              (first
                | (go_at_call 7; with_reducible refine (deci_any i _ (by omega)).mono ?_; rintro r w3 ⟨rfl, hb2⟩; have hz := hb2.size; first | (with_reducible have T6 := fiveE_newd (B := B) (by omega) hb2; obtain ⟨y0, y1, y2, y3, y4⟩ := fiveE_five T6; obtain ⟨z0, z1, z2, z3, z4⟩ := fiveE_fivef T6) | (with_reducible have T6 := fiveE_new (B := B) (by omega) hb2; obtain ⟨y0, y1, y2, y3, y4⟩ := fiveE_five T6; obtain ⟨z0, z1, z2, z3, z4⟩ := fiveE_fivef T6) | (with_reducible replace T6 := fiveE_later T6 hb2; obtain ⟨y0, y1, y2, y3, y4⟩ := fiveE_five T6; obtain ⟨z0, z1, z2, z3, z4⟩ := fiveE_fivef T6) | skip)
                | (go_at_call 6; with_reducible refine (elem_any _ _ _ _ _).mono ?_; rintro r w3 ⟨rfl, hb2⟩; have hz := hb2.size; first | (with_reducible have T6 := fiveE_newd (B := B) (by omega) hb2; obtain ⟨y0, y1, y2, y3, y4⟩ := fiveE_five T6; obtain ⟨z0, z1, z2, z3, z4⟩ := fiveE_fivef T6) | (with_reducible have T6 := fiveE_new (B := B) (by omega) hb2; obtain ⟨y0, y1, y2, y3, y4⟩ := fiveE_five T6; obtain ⟨z0, z1, z2, z3, z4⟩ := fiveE_fivef T6) | (with_reducible replace T6 := fiveE_later T6 hb2; obtain ⟨y0, y1, y2, y3, y4⟩ := fiveE_five T6; obtain ⟨z0, z1, z2, z3, z4⟩ := fiveE_fivef T6) | skip))
            all_goals
              (go_wp2_with fail
               go_meet
               case rel =>
                 (first
                   | (have E7 := endE_put (w1 := w7) T6 (by assumption); exact ⟨_, rfl, E7⟩)
                   | (have E7 := endE_new (w1 := w7) (W := w3) (B := B) 38 (by omega) (by assumption); exact ⟨_, rfl, E7⟩)))
          case rest =>
            obtain ⟨w8, rfl⟩ : ∃ z, z = wc := ⟨_, rfl⟩
            obtain ⟨ke, rfl, HE⟩ := hcut
            have H8 : Hid (M3 w h g g2 n n2 q q2 l [(kd, [.int .i64 0, .int .i64 0]), (ke, [.int .i64 (b : Int), .int .i64 (30 + (i : Int)), .int .i64 (30 + (t : Int)), .string v, .bool false])] w8) := by
              have K := HS7.out.later (HB.out.symm ▸ HE.out.2.2)
              exact ⟨⟨K.1.1, K.1.2.1, K.1.2.2.1, HE.out.2.1, K.1.2.2.2⟩, K.2.1, K.2.2⟩
            clear HSr HB HE HS7 hz0 hzd hw1 hw2 hw3 hdl hev et eb hsum1 hsum2
            obtain ⟨t0, t1, t2, t3, t4, t5, t6, t7, t8, t9⟩ := (show Has _ g (llL n q) from H8.out.1.1).ten
            obtain ⟨s0, s1⟩ := (show Has _ kd [.int .i64 0, .int .i64 0] from H8.out.1.2.2.1).two
            obtain ⟨r0, r1, r2, r3, r4⟩ := (show Has _ ke [.int .i64 (b : Int), .int .i64 (30 + (i : Int)), .int .i64 (30 + (t : Int)), .string v, .bool false] from H8.out.1.2.2.2.1).five
            go_wp2_with fail
            refine (inss_yes (l := l) (q := q) (e := ⟨(b : Int), 30 + (i : Int), 30 + (t : Int), v, false⟩) (d := (0, 0)) _ m n nm HE1.out.2.2.1 H8.out.2.1.row HE1.out.2.1 HX.out.2.2.1 HX.out.2.2.2.2.1 HE1.out.2.2.2.2.2.1).mono ?_
            rintro e y1 ⟨p1, rfl, o1, b1⟩
            obtain ⟨k1, ek1⟩ : ∃ k, y1.heap.size = k := ⟨_, rfl⟩
            have H9 : Hid (M3 w h g g2 n n2 q q2 l [(k1, llL nm p1), (kd, [.int .i64 0, .int .i64 0]), (ke, [.int .i64 (b : Int), .int .i64 (30 + (i : Int)), .int .i64 (30 + (t : Int)), .string v, .bool false])] (y1.alloc (.cells (llL nm p1).toArray 31)) ∧ RowC g g2 (y1.alloc (.cells (llL nm p1).toArray 31)) p1.lo (flatL m)) := by
              have hal : Below y1.heap.size y1 (y1.alloc (.cells (llL nm p1).toArray 31)) := (Below.refl _ _).alloc (Nat.le_refl _) _
              exact ⟨(H8.out.later b1).push ek1 _ _, (RowC.of_own o1 H8.out.1.1.1 H8.out.1.2.1.1).later hal⟩
            have hg1 : g < k1 := by rw [← ek1]; exact (H8.out.later b1).1.1.1
            have hg12 : g2 < k1 := by rw [← ek1]; exact (H8.out.later b1).1.2.1.1
            clear b1 o1 H8 t0 t1 t2 t3 t4 t5 t6 t7 t8 t9 s0 s1 r0 r1 r2 r3 r4
            go_upto_region 37 with fail
            generalize hW : y1.alloc (.cells (llL nm p1).toArray 31) = y2 at H9 ⊢
            clear hW ek1
            obtain ⟨t0, t1, t2, t3, t4, t5, t6, t7, t8, t9⟩ := (show Has _ g2 (llL n2 q2) from H9.out.1.1.2.1).ten
            obtain ⟨s0, s1⟩ := (show Has _ kd [.int .i64 0, .int .i64 0] from H9.out.1.1.2.2.2.1).two
            obtain ⟨r0, r1, r2, r3, r4⟩ := (show Has _ ke [.int .i64 (b : Int), .int .i64 (30 + (i : Int)), .int .i64 (30 + (t : Int)), .string v, .bool false] from H9.out.1.1.2.2.2.2.1).five
            go_wp2_with fail
            refine (inss_yes (l := liveL l) (q := q2) (e := ⟨(b : Int), 30 + (i : Int), 30 + (t : Int), v, false⟩) (d := (0, 0)) _ (liveL m) n2 nm2 HE1.out.2.2.2.2.1 H9.out.1.2.2.row (smallX_live HE1.out.2.1) HX.out.2.2.2.1 HX.out.2.2.2.2.2.1 HE1.out.2.2.2.2.2.2).mono ?_
            rintro e y3 ⟨p2, rfl, o3, b3⟩
            obtain ⟨k2, ek2⟩ : ∃ k, y3.heap.size = k := ⟨_, rfl⟩
            have H10 : Hid (Regs h w (y3.alloc (.cells (llL nm2 p2).toArray 31)) [(k2, llL nm2 p2), (k1, llL nm p1), (g, llL n q), (g2, llL n2 q2)] ∧ RowC g g2 (y3.alloc (.cells (llL nm2 p2).toArray 31)) p1.lo (flatL m) ∧ RowC g g2 (y3.alloc (.cells (llL nm2 p2).toArray 31)) p2.lo (flatL (liveL m))) := by
              have hal : Below y3.heap.size y3 (y3.alloc (.cells (llL nm2 p2).toArray 31)) := (Below.refl _ _).alloc (Nat.le_refl _) _
              obtain ⟨h1, h2, h3, h4, h5, h6⟩ := (H9.out.1.later b3).1
              have R : Regs h w y3 [(k1, llL nm p1), (g, llL n q), (g2, llL n2 q2)] := ⟨h3, h1, h2, h6⟩
              exact ⟨R.push ek2 _ _, (H9.out.2.later b3).later hal, (RowC.of_own o3 H9.out.1.1.1.1 H9.out.1.1.2.1.1).later hal⟩
            have hg2 : g < k2 ∧ g2 < k2 ∧ k1 < k2 := by
              have h1 := (H9.out.1.later b3).1
              have h2 : k1 < y3.heap.size := h1.2.2.1.1
              omega
            obtain ⟨hgk3, hgk4, hgk5⟩ := hg2
            clear b3 o3 H9 t0 t1 t2 t3 t4 t5 t6 t7 t8 t9 s0 s1 r0 r1 r2 r3 r4
            go_upto_region 38 with fail
            generalize hW : y3.alloc (.cells (llL nm2 p2).toArray 31) = y4 at H10 ⊢
            clear hW ek2
            obtain ⟨t0, t1, t2, t3, t4, t5, t6, t7, t8, t9⟩ := (show Has _ k1 (llL nm p1) from H10.out.1.2.1).ten
            obtain ⟨u0, u1, u2, u3, u4, u5, u6, u7, u8, u9⟩ := (show Has _ g (llL n q) from H10.out.1.2.2.1).ten
            obtain ⟨z0, z1, z2, z3, z4, z5, z6, z7, z8, z9⟩ := (show Has _ g (llL n q) from H10.out.1.2.2.1).tenf
            have H11 : Hid (Regs h w (put10 y4 g (.int .i64 3) (.bool false) (.int .i64 0) (.int .i64 0) (.string ⟨#[]⟩) (.int .i64 0) (.int .i64 0) (.slice p1.eo 0 p1.ec) (.slice p1.lo nm p1.lc) (.slice p1.so 0 p1.sc)) [(g, llL nm p1), (k2, llL nm2 p2), (g2, llL n2 q2)] ∧ RowC g g2 (put10 y4 g (.int .i64 3) (.bool false) (.int .i64 0) (.int .i64 0) (.string ⟨#[]⟩) (.int .i64 0) (.int .i64 0) (.slice p1.eo 0 p1.ec) (.slice p1.lo nm p1.lc) (.slice p1.so 0 p1.sc)) p1.lo (flatL m) ∧ RowC g g2 (put10 y4 g (.int .i64 3) (.bool false) (.int .i64 0) (.int .i64 0) (.string ⟨#[]⟩) (.int .i64 0) (.int .i64 0) (.slice p1.eo 0 p1.ec) (.slice p1.lo nm p1.lc) (.slice p1.so 0 p1.sc)) p2.lo (flatL (liveL m))) := by
              obtain ⟨⟨h1, h2, h3, h4, h5⟩, h6, h7⟩ := H10.out
              have K := roundL (B := g + 1) (L := [(k2, llL nm2 p2), (g2, llL n2 q2)]) (n' := nm) (q' := p1) (l' := []) h3 ⟨h1, h4, h5⟩ (FOwn.nil _ _ _) HG.out (by omega) (fun e he => by
                simp only [List.mem_cons, List.not_mem_nil, or_false] at he
                rcases he with rfl | rfl
                · show k2 ≠ g; omega
                · show g2 ≠ g; omega)
              exact ⟨K.1, h6.put10 (Or.inl rfl) _ _ _ _ _ _ _ _ _ _, h7.put10 (Or.inl rfl) _ _ _ _ _ _ _ _ _ _⟩
            go_upto_region 41 with (go_at_call 8; refine (num_any _ _).mono ?_; rintro e w0 ⟨rfl, hw0⟩; have hw1 := hw0.symm; clear hw0; subst hw1)
            dsimp only [put10] at H11
            clear t0 t1 t2 t3 t4 t5 t6 t7 t8 t9 u0 u1 u2 u3 u4 u5 u6 u7 u8 u9 z0 z1 z2 z3 z4 z5 z6 z7 z8 z9
            generalize hW : World.setCell _ (⟨g, 9, none⟩ : Addr) _ = y5 at H11 ⊢
            clear hW H10
            obtain ⟨t0, t1, t2, t3, t4, t5, t6, t7, t8, t9⟩ := (show Has _ k2 (llL nm2 p2) from H11.out.1.2.1).ten
            obtain ⟨u0, u1, u2, u3, u4, u5, u6, u7, u8, u9⟩ := (show Has _ g2 (llL n2 q2) from H11.out.1.2.2.1).ten
            obtain ⟨z0, z1, z2, z3, z4, z5, z6, z7, z8, z9⟩ := (show Has _ g2 (llL n2 q2) from H11.out.1.2.2.1).tenf
            have H12 : Hid (M2 w h g g2 (i + 1) nm nm2 p1 p2 m (put10 y5 g2 (.int .i64 3) (.bool false) (.int .i64 0) (.int .i64 0) (.string ⟨#[]⟩) (.int .i64 0) (.int .i64 0) (.slice p2.eo 0 p2.ec) (.slice p2.lo nm2 p2.lc) (.slice p2.so 0 p2.sc))) := by
              obtain ⟨⟨h1, h2, h3, h4⟩, h6, h7⟩ := H11.out
              have K := roundL (B := g2 + 1) (L := [(g, llL nm p1)]) (n' := nm2) (q' := p2) (l' := []) h3 ⟨h1, h4⟩ (FOwn.nil _ _ _) (by have := HG.out; omega) (by omega) (fun e he => by
                simp only [List.mem_cons, List.not_mem_nil, or_false] at he
                subst he
                show g ≠ g2; omega)
              exact ⟨⟨K.1.2.1, K.1.1, K.1.2.2⟩, h6.put10 (Or.inr rfl) _ _ _ _ _ _ _ _ _ _, h7.put10 (Or.inr rfl) _ _ _ _ _ _ _ _ _ _, HX.out.2.2.2.2.2.2, HE1.out.2.2.2.2.2.1, HE1.out.2.2.2.2.2.2⟩
            clear H11
            go_wp2
            dsimp only [put10] at H12
            go_roundg (gk - 1)
            case measure => omega
            case rel => exact ⟨i + 1, nm, nm2, p1, p2, m, by omega, by go_num, H12.out⟩
      · have HD : ¬ i < qs.length ∨ i < qs.length ∧ ¬ i < 20 := by
          rcases hQ3.out with h | h
          · exact Or.inl (by omega)
          · by_cases h2 : i < qs.length
            · exact Or.inr ⟨h2, by omega⟩
            · exact Or.inl h2
        obtain ⟨row, hrow⟩ : ∃ r, valsX l = r := ⟨_, rfl⟩
        obtain ⟨nr, hnr⟩ : ∃ r, row.length = r := ⟨_, rfl⟩
        have hnr40 : nr ≤ 40 := by
          have h1 := HS.out.2.2.2.1.len
          have h2 := valsX_le l
          rw [hrow, hnr] at h2
          omega
        have HE0 : Hid (Regs h w wr [(g, llL n q), (g2, llL n2 q2)] ∧ FRow wr q.lo (flatL l) ∧ FRow wr q2.lo (flatL (liveL l))) := ⟨HS.out.1, HS.out.2.1.row, HS.out.2.2.1.row⟩
        have HE1 : Hid (valsX l = row ∧ SmallX l ∧ n = l.length ∧ row.length = nr ∧ n2 = (liveL l).length) := ⟨hrow, HS.out.2.2.2.1.small, HS.out.2.2.2.2.1, hnr, HS.out.2.2.2.2.2⟩
        obtain ⟨t0, t1, t2, t3, t4, t5, t6, t7, t8, t9⟩ := (show Has _ g (llL n q) from HE0.out.1.1).ten
        clear HS hrow hnr
        rcases HD with hlen | ⟨hlen, hd2⟩
        all_goals
          (go_wp2_with fail
           refine (valx_yes (l := l) (q := q) _ row n nr HE1.out.2.2.1 HE0.out.2.1 HE1.out.2.1 HE1.out.1 HE1.out.2.2.2.1.symm).mono ?_
           rintro e x1 ⟨vo, cv, rfl, o1, b1⟩
           have G1 : Hid (Regs h w x1 [(g, llL n q), (g2, llL n2 q2)] ∧ FRow x1 q2.lo (flatL (liveL l)) ∧ FRow x1 vo (flatT row)) := ⟨HE0.out.1.later b1, HE0.out.2.2.later b1, o1.row⟩
           clear b1 o1 HE0 t0 t1 t2 t3 t4 t5 t6 t7 t8 t9
           obtain ⟨t0, t1, t2, t3, t4, t5, t6, t7, t8, t9⟩ := (show Has _ g2 (llL n2 q2) from G1.out.1.2.1).ten
           go_wp2_with fail
           refine (valx_yes (l := liveL l) (q := q2) _ row n2 nr HE1.out.2.2.2.2 G1.out.2.1 (smallX_live HE1.out.2.1) (by unfold valsX; rw [live_live]; exact HE1.out.1) HE1.out.2.2.2.1.symm).mono ?_
           rintro e x2 ⟨vp, cw, rfl, o2, b2⟩
           have G2 : Hid (Regs h w x2 [(g, llL n q), (g2, llL n2 q2)] ∧ FRow x2 vo (flatT row) ∧ FRow x2 vp (flatT row)) := ⟨G1.out.1.later b2, G1.out.2.2.later b2, o2.row⟩
           clear b2 o2 G1 t0 t1 t2 t3 t4 t5 t6 t7 t8 t9
           go_wp2_with (go_at_call 8; refine (num_any _ _).mono ?_; rintro e w0 ⟨rfl, hw0⟩; have hw1 := hw0.symm; clear hw0; subst hw1)
           refine (tsM vo vp cv cw row _ HE1.out.2.2.2.1.symm G2.out.2.1 G2.out.2.2 (by unfold maxLen; omega)).mono ?_
           rintro e x3 ⟨rfl, b3⟩
           have G3 : Hid (Regs h w x3 [(g, llL n q), (g2, llL n2 q2)]) := G2.out.1.later b3
           clear b3 G2
           go_wp2
           go_ret
           exact ⟨rfl, G3.out.base.1⟩)

set_option maxRecDepth 100000 in
theorem walk {H : Type} {enc : TypeId × Value → H} {base : Nat} {d0 d1 : DataW H} {p0 p1 : List MemPlace} (v0 v1 : Value) (w : World)
    (o0 : Value.okWide Try.prog w .any base 22 v0) (h0 : DataW.Trod enc Try.prog w 0 (fun _ => true) true 22 v0 d0 p0) (z0 : ∀ n, n ∈ DataW.weights Try.prog 22 d0 → n ≤ reachBytes)
    (o1 : Value.okWide Try.prog w .any base 22 v1) (h1 : DataW.Trod enc Try.prog w 0 (fun _ => true) true 22 v1 d1 p1) (z1 : ∀ n, n ∈ DataW.weights Try.prog 22 d1 → n ≤ reachBytes) :
    Calls Try.prog 3 #[v0, v1] w fun e w' => e = .returned (.bool true) ∧ Below w.heap.size w w' := by
  obtain ⟨l, ao, ca, rfl, hr, hl⟩ := open_intsR o0 h0 z0
  obtain ⟨m, bo, cb, rfl, hr2, hl2⟩ := open_intsR o1 h1 z1
  exact core ao ca l bo cb m w hr hl hr2 hl2

end Go.Proofs.Ytghlegidapmpmaa.RgaMarks
