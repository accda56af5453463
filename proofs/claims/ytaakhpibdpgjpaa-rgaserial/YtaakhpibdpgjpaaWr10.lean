/-
  The law's own writes: a few elements, each behind the one ahead.
-/
import Derived.Test.YtaakhpibdpgjpaaStepL
import Derived.Test.YtaakhpibdpgjpaaAwake10
import Derived.Test.YtaakhpibdpgjpaaDeci
import Derived.OwnWalk
namespace Go.Proofs.Ytaakhpibdpgjpaa
open Go.RowKit Go.Shelf
set_option linter.unusedVariables false
set_option linter.unusedSimpArgs false

theorem deci_v (x : Nat) (v : ByteArray) (hx : x < 9223372036854775808) (hv : (⟨(Lib.decDigits x).toArray⟩ : ByteArray) = v) (w : World) :
    Calls Try.prog 27 #[.int .i64 x] w fun e w' => e = .returned (.string v) ∧ Below w.heap.size w w' := hv ▸ deci_any x w hx
theorem runL_step {v : ByteArray} {node : Int} {m i : Nat} {d : D2} {l L : List L5} (h : runL v node (m + 1) i d l = some L) :
    okX l ⟨node, (i : Int), 3 + (i : Int), v, false⟩ = true ∧ ∃ l', insL l ⟨node, (i : Int), 3 + (i : Int), v, false⟩ d = some l' ∧ runL v node m (i + 1) (node, (i : Int)) l' = some L := by
  unfold runL at h
  simp only at h
  split at h
  · rename_i hok
    refine ⟨hok, ?_⟩
    split at h
    · cases h
    · rename_i l' hl'
      exact ⟨l', hl', h⟩
  · cases h
theorem smallX_next {l l' : List L5} {e : L5} {d : D2} {k : Nat} (h : SmallX l) (hl : l.length + (k + 1) ≤ 40) (hv : e.val.size ≤ 256) (hi : insL l e d = some l') : SmallX l' ∧ l'.length + k ≤ 40 ∧ l'.length = l.length + 1 := by
  have := insL_len hi
  exact ⟨smallX_ins h (by omega) hv hi, by omega, this⟩

/-- What the loop keeps. -/
def Wr (w : World) (h n : Nat) (q : Pl) (l : List L5) (d : D2) (wr : World) : Prop := Regs h w wr [(h, llL n q), (h + 1, [.int .i64 d.1, .int .i64 d.2]), (h + 2, zl 0)] ∧ (FRow w q.lo (flatL l) ∨ FOwn (h + 3) wr q.lo (flatL l))
theorem Wr.row {w wr : World} {h n : Nat} {q : Pl} {l : List L5} {d : D2} (H : Wr w h n q l d wr) (hh : w.heap.size = h) : FRow wr q.lo (flatL l) := by
  rcases H.2 with h1 | h1
  · exact h1.later (hh.symm ▸ H.1.base.1)
  · exact h1.row

set_option maxHeartbeats 4000000 in
set_option maxRecDepth 100000 in
theorem writes_any (nd j n : Nat) (q : Pl) (l : List L5) (d : D2) (v : ByteArray) (L : List L5) (n' : Nat) (w : World) (hr : FRow w q.lo (flatL l)) (hn : n = l.length) (hs : SmallX l) (hlen : l.length + j ≤ 40) (hnd : nd < 2) (hv : (⟨(Lib.decDigits nd).toArray⟩ : ByteArray) = v) (hvs : v.size ≤ 256) (hL : runL v (nd : Int) j 1 d l = some L) (hn' : n' = L.length) :
    Calls Try.prog 26 #[llV n q, .int .i64 (nd : Nat), .int .i64 (j : Nat), dv d] w fun e w' => ∃ q', e = .returned (.tuple #[llV n' q', .bool true]) ∧ FRow w' q'.lo (flatL L) ∧ SmallX L ∧ Below w.heap.size w w' := by
  obtain ⟨d1, d2⟩ := d
  obtain ⟨h, hh⟩ : ∃ h, w.heap.size = h := ⟨_, rfl⟩
  have H0 : Hid (Wr w h n q l (d1, d2) (((w.alloc (.cells (llL n q).toArray 30)).alloc (.cells #[.int .i64 d1, .int .i64 d2] 32)).alloc (.cells (zl 0).toArray 30))) := by
    refine ⟨⟨?_, ?_, ?_, ?_⟩, Or.inl hr⟩
    · exact hh ▸ ((has_new w (llL n q) _).alloc _).alloc _
    · have := (has_new (w.alloc (.cells (llL n q).toArray 30)) [.int .i64 d1, .int .i64 d2] 32).alloc (.cells (zl 0).toArray 30)
      simpa [hh] using this
    · have := has_new ((w.alloc (.cells (llL n q).toArray 30)).alloc (.cells #[.int .i64 d1, .int .i64 d2] 32)) (zl 0) 30
      simpa [hh] using this
    · exact ⟨(((Below.refl _ _).alloc (by omega) _).alloc (by simp; omega) _).alloc (by simp; omega) _, by simp; omega⟩
  rw [hh]
  have HV : Hid (nd < 9223372036854775808 ∧ (⟨(Lib.decDigits nd).toArray⟩ : ByteArray) = v) := ⟨by omega, hv⟩
  have HH : Hid (w.heap.size = h) := hh
  have HN : Hid (n' = L.length) := hn'
  have H1 : Hid (n = l.length ∧ SmallX l ∧ runL v (nd : Int) j 1 (d1, d2) l = some L) := ⟨hn, hs, hL⟩
  have hnj : n + j ≤ 40 := by omega
  have HVS : Hid (v.size ≤ 256) := hvs
  have hj40 : j ≤ 40 := by omega
  clear hr hn hs hlen hv hL hvs hn'
  go_enter Try.func26, Try.ntmps26
  go_wp2
  clear hh
  go_loopg [10, 11, 12] j (fun m s10 _ _ wr => ∃ (i n : Nat) (q : Pl) (l : List L5) (d1 d2 : Int), i + m = j + 1 ∧ s10 = .int .i64 (i : Nat) ∧ n + m ≤ 40 ∧ Hid (Wr w h n q l (d1, d2) wr ∧ n = l.length ∧ SmallX l ∧ runL v (nd : Int) m i (d1, d2) l = some L))
  case atStart => exact ⟨1, n, q, l, d1, d2, by omega, rfl, hnj, H0.out, H1.out⟩
  case round =>
    clear H0 H1 hnj
    obtain ⟨i, n, q, l, d1, d2, hij, rfl, hnm, HS⟩ := hrel
    by_cases hi : i ≤ j
    · obtain ⟨m, rfl⟩ : ∃ m, gk = m + 1 := ⟨gk - 1, by omega⟩
      obtain ⟨l', hok, hin, hrun⟩ : ∃ l', okX l ⟨(nd : Int), (i : Int), 3 + (i : Int), v, false⟩ = true ∧ insL l ⟨(nd : Int), (i : Int), 3 + (i : Int), v, false⟩ (d1, d2) = some l' ∧ runL v (nd : Int) m (i + 1) ((nd : Int), (i : Int)) l' = some L := by
        obtain ⟨h1, l', h2, h3⟩ := runL_step HS.out.2.2.2
        exact ⟨l', h1, h2, h3⟩
      have HX : Hid (okX l ⟨(nd : Int), (i : Int), 3 + (i : Int), v, false⟩ = true ∧ insL l ⟨(nd : Int), (i : Int), 3 + (i : Int), v, false⟩ (d1, d2) = some l' ∧ runL v (nd : Int) m (i + 1) ((nd : Int), (i : Int)) l' = some L ∧ n + 1 = l'.length ∧ SmallX l' ∧ SmallX l ∧ n = l.length) := by
        have h2 := smallX_next (k := m) HS.out.2.2.1 (by have := HS.out.2.1; omega) HVS.out hin
        exact ⟨hok, hin, hrun, by have := HS.out.2.1; omega, h2.1, HS.out.2.2.1, HS.out.2.1⟩
      clear hok hin hrun
      obtain ⟨B, hB⟩ : ∃ B, wr.heap.size = B := ⟨_, rfl⟩
      have hg : h + 2 < B := by rw [← hB]; exact HS.out.1.1.2.2.1.1
      have HSr : Hid (SrcL wr B h n q l (h + 1) 0 (.int .i64 d1) (h + 1) 1 (.int .i64 d2)) := ⟨hB, HS.out.1.1.1, HS.out.1.row HH.out, by omega, HS.out.1.1.2.1.at 0 rfl, by omega, HS.out.1.1.2.1.at 1 rfl⟩
      have HB : Hid (wr.heap.size = B) := hB
      have HW : Hid (Wr w h n q l (d1, d2) wr) := HS.out.1
      have hz0 : B ≤ wr.heap.size := by omega
      have hzd : B ≤ wr.drew.heap.size := hz0
      have hw3 : IntKind.i64.wrap (3 + (i : Int)) = 3 + (i : Int) := by rw [IntKind.wrap_i64]; omega
      clear hB HS
      go_upto_region 4 with fail
      go_cut [11, 12] from 18 to 30 (fun p e wx => ∃ (kc : Nat) (q' : Pl), p = .pointer (some ⟨kc, 0, none⟩) ∧ e = .int .i64 0 ∧ Hid (EndL wr B (n + 1) l' kc q' wx))
      case first =>
        go_region_held3 (HeldL wr B h n q (h + 1) 0 (.int .i64 d1) (h + 1) 1 (.int .i64 d2)) (first | (with_reducible apply heldL_later HSr.out hb2; assumption) | with_reducible apply heldL_put HSr.out T6 (by assumption) | (with_reducible apply heldL_swap HSr.out (by omega) (by assumption)) | (with_reducible exact heldL_drew HSr.out) | (with_reducible exact heldL_first HSr.out _) | (with_reducible apply heldL_alloc HSr.out _ (by assumption)))
          (first
            | (go_at_call 27; with_reducible refine (deci_v nd v HV.out.1 HV.out.2 _).mono ?_; rintro r w3 ⟨rfl, hb2⟩; have hz := hb2.size; first | (with_reducible have T6 := nineT_newd (B := B) (by omega) hb2; obtain ⟨y0, y1, y2, y3, y4, y5, y6, y7, y8, y9⟩ := nineT_ten T6; obtain ⟨z0, z1, z2, z3, z4, z5, z6, z7, z8, z9⟩ := nineT_tenf T6) | (with_reducible have T6 := nineT_new (B := B) (by omega) hb2; obtain ⟨y0, y1, y2, y3, y4, y5, y6, y7, y8, y9⟩ := nineT_ten T6; obtain ⟨z0, z1, z2, z3, z4, z5, z6, z7, z8, z9⟩ := nineT_tenf T6) | (with_reducible replace T6 := nineT_later T6 hb2; obtain ⟨y0, y1, y2, y3, y4, y5, y6, y7, y8, y9⟩ := nineT_ten T6; obtain ⟨z0, z1, z2, z3, z4, z5, z6, z7, z8, z9⟩ := nineT_tenf T6) | skip)
            | (go_at_call 25; with_reducible refine (elem_any _ _ _ _ _).mono ?_; rintro r w3 ⟨rfl, hb2⟩; have hz := hb2.size; first | (with_reducible have T6 := nineT_newd (B := B) (by omega) hb2; obtain ⟨y0, y1, y2, y3, y4, y5, y6, y7, y8, y9⟩ := nineT_ten T6; obtain ⟨z0, z1, z2, z3, z4, z5, z6, z7, z8, z9⟩ := nineT_tenf T6) | (with_reducible have T6 := nineT_new (B := B) (by omega) hb2; obtain ⟨y0, y1, y2, y3, y4, y5, y6, y7, y8, y9⟩ := nineT_ten T6; obtain ⟨z0, z1, z2, z3, z4, z5, z6, z7, z8, z9⟩ := nineT_tenf T6) | (with_reducible replace T6 := nineT_later T6 hb2; obtain ⟨y0, y1, y2, y3, y4, y5, y6, y7, y8, y9⟩ := nineT_ten T6; obtain ⟨z0, z1, z2, z3, z4, z5, z6, z7, z8, z9⟩ := nineT_tenf T6) | skip)
            | (go_at_call 10; with_reducible refine (ins_atL (e := ⟨(nd : Int), (i : Int), 3 + (i : Int), v, false⟩) (d := (d1, d2)) (m := l') (n' := n + 1) HSr.out (by assumption) HX.out.2.2.2.2.2.2 HX.out.2.2.2.2.2.1 HX.out.1 HX.out.2.1 HX.out.2.2.2.1).mono ?_; rintro r w3 ⟨q', rfl, O3, hC3, hb2⟩; have hz := hb2.size; first | (with_reducible have T6 := nineT_newd (B := B) (by omega) hb2; obtain ⟨y0, y1, y2, y3, y4, y5, y6, y7, y8, y9⟩ := nineT_ten T6; obtain ⟨z0, z1, z2, z3, z4, z5, z6, z7, z8, z9⟩ := nineT_tenf T6) | (with_reducible have T6 := nineT_new (B := B) (by omega) hb2; obtain ⟨y0, y1, y2, y3, y4, y5, y6, y7, y8, y9⟩ := nineT_ten T6; obtain ⟨z0, z1, z2, z3, z4, z5, z6, z7, z8, z9⟩ := nineT_tenf T6) | (with_reducible replace T6 := nineT_later T6 hb2; obtain ⟨y0, y1, y2, y3, y4, y5, y6, y7, y8, y9⟩ := nineT_ten T6; obtain ⟨z0, z1, z2, z3, z4, z5, z6, z7, z8, z9⟩ := nineT_tenf T6) | skip))
        all_goals
          (go_wp2_with fail
           go_meet
           case rel =>
             (first
               | (have E7 := endL_put (w1 := wr) (l' := l') T6 O3 (by assumption); exact ⟨_, q', rfl, rfl, E7⟩)
               | (have E7 := endL_new (w1 := wr) (W := w3) (B := B) (l' := l') 30 hC3 (by omega) O3 (by assumption); exact ⟨_, q', rfl, rfl, E7⟩)))
      case rest =>
        obtain ⟨w3, rfl⟩ : ∃ z, z = wc := ⟨_, rfl⟩
        obtain ⟨kc, q', rfl, rfl, HE⟩ := hcut
        have H3 : Hid (h + 3 ≤ B ∧ B ≤ kc ∧ Has w3 kc (llL (n + 1) q') ∧ Has w3 h (llL n q) ∧ Has w3 (h + 1) [.int .i64 d1, .int .i64 d2] ∧ Has w3 (h + 2) (zl 0) ∧ FOwn B w3 q'.lo (flatL l') ∧ Below h w w3) := by
          have hb := HE.out.2.2.2
          have K := HW.out.1.fit HB.out hb
          exact ⟨by omega, HE.out.1, HE.out.2.1, K.1, K.2.1, K.2.2.1, HE.out.2.2.1, K.base.1⟩
        have hkc : h + 2 < kc := by have := H3.out.2.1; omega
        clear HSr HB HE HW hz0 hzd hg
        obtain ⟨t0, t1, t2, t3, t4, t5, t6, t7, t8, t9⟩ := H3.out.2.2.1.ten
        obtain ⟨y0, y1, y2, y3, y4, y5, y6, y7, y8, y9⟩ := H3.out.2.2.2.1.ten
        obtain ⟨z0, z1, z2, z3, z4, z5, z6, z7, z8, z9⟩ := H3.out.2.2.2.1.tenf
        have H4 : Hid (Wr w h (n + 1) q' l' (d1, d2) (put10 w3 h (.int .i64 3) (.bool false) (.int .i64 0) (.int .i64 0) (.string ⟨#[]⟩) (.int .i64 0) (.int .i64 0) (.slice q'.eo 0 q'.ec) (.slice q'.lo (n + 1) q'.lc) (.slice q'.so 0 q'.sc))) := by
          obtain ⟨h1, h2, h3, h4, h5, h6, h7, h8⟩ := H3.out
          have K := roundL (L := [(h + 1, [.int .i64 d1, .int .i64 d2]), (h + 2, zl 0)]) (n' := n + 1) (q' := q') h4 ⟨h5, h6, h8, by have := h3.1; omega⟩ h7 (Nat.le_refl _) (by omega) (fun e he => by
            simp only [List.mem_cons, List.not_mem_nil, or_false] at he
            rcases he with rfl | rfl
            · show h + 1 ≠ h; omega
            · show h + 2 ≠ h; omega)
          exact ⟨K.1, Or.inr ((h7.put10 (by omega) _ _ _ _ _ _ _ _ _ _).mono h1)⟩
        go_upto_region 8 with (go_at_call 21; refine (num_any _ _).mono ?_; rintro e w0 ⟨rfl, hw0⟩; have hw1 := hw0.symm; clear hw0; subst hw1)
        dsimp only [put10] at H4
        clear t0 t1 t2 t3 t4 t5 t6 t7 t8 t9 y0 y1 y2 y3 y4 y5 y6 y7 y8 y9 z0 z1 z2 z3 z4 z5 z6 z7 z8 z9
        generalize hW : World.setCell _ (⟨h, 9, none⟩ : Addr) _ = w4 at H4 ⊢
        clear hW H3
        obtain ⟨r0, r1⟩ := H4.out.1.2.1.two
        have f0 := H4.out.1.2.1.free 0 rfl
        have f1 := H4.out.1.2.1.free 1 rfl
        have H5 : Hid (Wr w h (n + 1) q' l' ((nd : Int), (i : Int)) ((w4.setCell ⟨h + 1, 0, none⟩ (.int .i64 nd)).setCell ⟨h + 1, 1, none⟩ (.int .i64 i))) := by
          obtain ⟨⟨h1, h2, h3, h4, h5⟩, h6⟩ := H4.out
          refine ⟨⟨(h1.other (by omega) _ _).other (by omega) _ _, (h2.put 0 _).put 1 _, (h3.other (by omega) _ _).other (by omega) _ _, (h4.setCell (p := ⟨h + 1, 0, none⟩) (by show h ≤ h + 1; omega) _).setCell (p := ⟨h + 1, 1, none⟩) (by show h ≤ h + 1; omega) _, by simpa using h5⟩, ?_⟩
          rcases h6 with h6 | h6
          · exact Or.inl h6
          · exact Or.inr ((h6.off (by omega) _ _).off (by omega) _ _)
        clear H4
        go_wp2
        go_roundg m
        case measure => omega
        case rel => exact ⟨i + 1, n + 1, q', l', (nd : Int), (i : Int), by omega, by go_num, by omega, H5.out, HX.out.2.2.2.1, HX.out.2.2.2.2.1, HX.out.2.2.1⟩
    · obtain rfl : gk = 0 := by omega
      have HE : Hid (Below h w wr ∧ Has wr (h + 2) (zl 0) ∧ n = n' ∧ (∀ u0 u1 u2 u3 u4 u5 u6 u7 u8 u9, FRow (put10 wr (h + 2) u0 u1 u2 u3 u4 u5 u6 u7 u8 u9) q.lo (flatL L)) ∧ SmallX L) := by
        have hl : l = L := by have := HS.out.2.2.2; simpa [runL] using this
        subst hl
        refine ⟨HS.out.1.1.base.1, HS.out.1.1.2.2.1, by rw [HS.out.2.1, HN.out], fun u0 u1 u2 u3 u4 u5 u6 u7 u8 u9 => ?_, HS.out.2.2.1⟩
        rcases HS.out.1.2 with h1 | h1
        · exact h1.later (HH.out.symm ▸ below_put10 HS.out.1.1.base.1 (Nat.le_add_right h 2) _ _ _ _ _ _ _ _ _ _)
        · exact (h1.put10 (by omega) _ _ _ _ _ _ _ _ _ _).row
      obtain ⟨t0, t1, t2, t3, t4, t5, t6, t7, t8, t9⟩ := HS.out.1.1.1.ten
      obtain ⟨y0, y1, y2, y3, y4, y5, y6, y7, y8, y9⟩ := HE.out.2.1.ten
      obtain ⟨z0, z1, z2, z3, z4, z5, z6, z7, z8, z9⟩ := HE.out.2.1.tenf
      clear HS
      have hd : decide ((i : Int) ≤ (j : Int)) = false := by simp; omega
      go_wp2_with fail
      rw [← HE.out.2.2.1]
      exact bodyPost_ret (ret_cell2 rfl rfl rfl (HE.out.2.1.put10 _ _ _ _ _ _ _ _ _ _)) rfl ⟨q, rfl, HE.out.2.2.2.1 _ _ _ _ _ _ _ _ _ _, HE.out.2.2.2.2, below_put10 HE.out.1 (by omega) _ _ _ _ _ _ _ _ _ _⟩

end Go.Proofs.Ytaakhpibdpgjpaa
