/-
  The document's own place, live, ListValues, At, Erase, Compact, by contracts.
-/
import Derived.Test.YtaakhpibdpgjpaaVal10
import Derived.Test.YtaakhpibdpgjpaaEra10
namespace Go.Proofs.Ytaakhpibdpgjpaa
open Go.RowKit Go.Shelf
set_option linter.unusedVariables false
set_option linter.unusedSimpArgs false

/-- What place begins with. -/
def PlB (w : World) (h : Nat) (c : Ce) (p : Pl) (d : D2) (w1 : World) : Prop := Below h w w1 ∧ Has w1 h (ceL c p) ∧ Has w1 (h + 1) [.int .i64 d.1, .int .i64 d.2]
theorem plB_new (w : World) (c : Ce) (p : Pl) (d : D2) (t1 t2 : TypeId) : PlB w w.heap.size c p d ((w.alloc (.cells (ceL c p).toArray t1)).alloc (.cells #[.int .i64 d.1, .int .i64 d.2] t2)) := by
  refine ⟨((Below.refl _ _).alloc (Nat.le_refl _) _).alloc (by simp) _, (has_new _ _ _).alloc _, ?_⟩
  have := has_new (w.alloc (.cells (ceL c p).toArray t1)) [.int .i64 d.1, .int .i64 d.2] t2
  simpa using this
theorem plB_drew {w w1 : World} {h : Nat} {c : Ce} {p : Pl} {d : D2} (H : PlB w h c p d w1) : PlB w h c p d w1.drew := ⟨H.1.drew, H.2.1.later (Below.refl _ _).drew, H.2.2.later (Below.refl _ _).drew⟩

set_option maxHeartbeats 1000000 in
set_option maxRecDepth 100000 in
theorem rplace_any (c : Ce) (p : Pl) (d : D2) (w : World) (hr : CRow w c p) (hf : Fit c) :
    Calls Try.prog 36 #[ceV c p, dv d] w fun e w' => e = .returned (.int .i64 (numD c.elems d)) ∧ Below w.heap.size w w' := by
  obtain ⟨eo, ec, lo, lc, so, sc⟩ := p
  obtain ⟨d1, d2⟩ := d
  have H0 : Hid (PlB w w.heap.size c ⟨eo, ec, lo, lc, so, sc⟩ (d1, d2) ((w.alloc (.cells (ceL c ⟨eo, ec, lo, lc, so, sc⟩).toArray 30)).alloc (.cells #[.int .i64 d1, .int .i64 d2] 32))) := plB_new _ _ _ _ _ _
  obtain ⟨h, hh⟩ : ∃ h, w.heap.size = h := ⟨_, rfl⟩
  have HR : Hid (FRow w lo (flatL c.elems) ∧ w.heap.size = h) := ⟨hr.2.1, hh⟩
  have hl := hf.2.1
  obtain ⟨fin, hfin⟩ : ∃ fin, numD c.elems (d1, d2) = fin := ⟨_, rfl⟩
  rw [hh] at H0 ⊢
  rw [hfin]
  have HF : Hid (numD c.elems (d1, d2) = fin) := hfin
  clear hr hf hfin
  go_enter Try.func36, Try.ntmps36
  go_wp2
  clear hh
  go_loopg [5] c.elems.length (fun n iv wr => ∃ i : Nat, i + n = c.elems.length ∧ iv = .int .i64 i ∧ Hid (PlB w h c ⟨eo, ec, lo, lc, so, sc⟩ (d1, d2) wr) ∧ Hid (∀ (j : Nat) x, j < i → c.elems[j]? = some x → dotX x ≠ (d1, d2)))
  case atStart => exact ⟨0, by omega, rfl, H0.out, fun j x hj => by omega⟩
  case round =>
    clear H0
    obtain ⟨i, hin, rfl, HB, HA⟩ := hrel
    have t8 := HB.out.2.1.at 8 rfl
    by_cases hi : i < c.elems.length
    · obtain ⟨bk, off, rfl, hb, hc⟩ := HR.out.1 (by rw [flatL_len]; omega)
      obtain ⟨⟨xn, xs, xt, xv, xg⟩, hx⟩ : ∃ x, c.elems[i]? = some x := ⟨_, List.getElem?_eq_getElem hi⟩
      obtain ⟨g0, g1, _, _, _⟩ := flatL_at c.elems i hx
      have hb1 : bk < h := HR.out.2 ▸ hb
      have k0 := (HB.out.1.cell (p := ⟨bk, off + i * 5, none⟩) (by exact hb1)).trans (hc _ _ g0)
      have k1 := (HB.out.1.cell (p := ⟨bk, off + i * 5 + 1, none⟩) (by exact hb1)).trans (hc _ _ g1)
      simp only at k0 k1
      have t0 := HB.out.2.2.at 0 rfl
      have t1 := HB.out.2.2.at 1 rfl
      have HX : Hid (c.elems[i]? = some ⟨xn, xs, xt, xv, xg⟩) := hx
      clear hc hx g0 g1 hb
      by_cases hq : xn = d1 ∧ xs = d2
      · obtain ⟨rfl, rfl⟩ := hq
        have HE : Hid (fin = (i : Int)) := by
          show fin = _
          rw [← HF.out, numD_some (atD_at HX.out rfl HA.out)]
        go_wp2
        go_region
        all_goals go_wp2
        all_goals go_ret
        exact ⟨by rw [HE.out]; rfl, HB.out.1.drew⟩
      · have HQ : Hid (¬ (xn = d1 ∧ xs = d2)) := hq
        by_cases h1 : xn = d1
        · have h2 : (xs == d2) = false := by simpa using fun e => hq ⟨h1, e⟩
          have h1' : (xn == d1) = true := by simpa using h1
          clear hq h1
          go_wp2
          go_region
          all_goals go_wp2
          all_goals go_roundg (gk - 1)
          case measure => omega
          case rel =>
            refine ⟨i + 1, by omega, by go_num, plB_drew HB.out, fun j y hj hy => ?_⟩
            by_cases e : j = i
            · subst e
              have := HX.out.symm.trans hy
              simp only [Option.some.injEq] at this
              subst this
              simpa using HQ.out
            · exact HA.out j y (by omega) hy
        · have h1' : (xn == d1) = false := by simpa using h1
          clear hq h1
          go_wp2
          go_region
          all_goals go_wp2
          all_goals go_roundg (gk - 1)
          case measure => omega
          case rel =>
            refine ⟨i + 1, by omega, by go_num, plB_drew HB.out, fun j y hj hy => ?_⟩
            by_cases e : j = i
            · subst e
              have := HX.out.symm.trans hy
              simp only [Option.some.injEq] at this
              subst this
              simpa using HQ.out
            · exact HA.out j y (by omega) hy
    · have hd : decide ((i : Int) < (c.elems.length : Int)) = false := by simp; omega
      have HE : Hid (fin = -1) := by
        show fin = _
        rw [← HF.out, numD_none (atD_no fun j y hy => HA.out j y (by have := (List.getElem?_eq_some_iff.1 hy).1; omega) hy)]
      go_wp2
      go_ret
      exact ⟨by rw [HE.out]; rfl, HB.out.1⟩

/-- What a loop that makes elements keeps. -/
def Ll (w : World) (h : Nat) (c : Ce) (p : Pl) (l : List L5) (ao : Option Addr) (ca : Nat) (wr : World) : Prop :=
  Below h w wr ∧ Has wr h (ceL c p) ∧ wr.ownsRow (h + 1) 34 5 (.slice ao l.length ca) l.length (flatL l)
theorem ll_later {w wr w2 : World} {h : Nat} {c : Ce} {p : Pl} {l : List L5} {ao : Option Addr} {ca : Nat} (H : Ll w h c p l ao ca wr) (hb : Below wr.heap.size wr w2) : Ll w h c p l ao ca w2 :=
  ⟨H.1.trans (hb.mono (by have := H.2.1.1; omega)), H.2.1.later hb, own_later H.2.2 hb⟩
theorem ll_grown {w wr w2 : World} {h : Nat} {c : Ce} {p : Pl} {l : List L5} {x : L5} {ao bo : Option Addr} {ca cb : Nat} {o : Obj} (H : Ll w h c p l ao ca wr) (o2 : w2.ownsRow (h + 1) 34 5 (.slice bo (l.length + 1) cb) (l.length + 1) (flatL l ++ l5 x)) (b2 : Below (h + 1) (wr.alloc o) w2) : Ll w h c p (l ++ [x]) bo cb w2 := by
  have hs := H.2.1.1
  have hal : Below (h + 1) wr (wr.alloc o) := (Below.refl _ _).alloc (by omega) _
  refine ⟨H.1.trans ((hal.trans b2).mono (by omega)), H.2.1.under (by omega) (hal.trans b2), ?_⟩
  rw [flatL_append, List.length_append]
  simpa [flatL] using o2

set_option maxHeartbeats 2000000 in
set_option maxRecDepth 100000 in
theorem rlive_any (c : Ce) (p : Pl) (w : World) (hr : CRow w c p) (hf : Fit c) :
    Calls Try.prog 41 #[ceV c p] w fun e w' => ∃ ao ca, e = .returned (.slice ao (liveL c.elems).length ca) ∧ FOwn w.heap.size w' ao (flatL (liveL c.elems)) ∧ Below w.heap.size w w' := by
  obtain ⟨h, hh⟩ : ∃ h, w.heap.size = h := ⟨_, rfl⟩
  obtain ⟨eo, ec, lo, lc, so, sc⟩ := p
  have H0 : Hid (Ll w h c ⟨eo, ec, lo, lc, so, sc⟩ [] none 0 (w.alloc (.cells (ceL c ⟨eo, ec, lo, lc, so, sc⟩).toArray 30))) := ⟨hh ▸ (Below.refl _ _).alloc (Nat.le_refl _) _, hh ▸ has_new w (ceL c ⟨eo, ec, lo, lc, so, sc⟩) _, own_nil _ _ _ _⟩
  have HR : Hid (FRow w lo (flatL c.elems) ∧ w.heap.size = h) := ⟨hr.2.1, hh⟩
  have hl := hf.2.1
  obtain ⟨m, hm⟩ : ∃ m, liveL c.elems = m := ⟨_, rfl⟩
  rw [hh, hm]
  have HMV : Hid (liveL c.elems = m) := hm
  clear hr hf hm
  go_enter Try.func41, Try.ntmps41
  go_wp2
  clear hh
  go_loopg [3, 4] c.elems.length (fun n s3 iv wr => ∃ (i j : Nat) (ao : Option Addr) (ca : Nat), i + n = c.elems.length ∧ iv = .int .i64 i ∧ s3 = .slice ao j ca ∧ Hid (Ll w h c ⟨eo, ec, lo, lc, so, sc⟩ (liveL (c.elems.take i)) ao ca wr ∧ (liveL (c.elems.take i)).length = j) ∧ j ≤ i)
  case atStart => exact ⟨0, 0, none, 0, by omega, rfl, rfl, ⟨H0.out, rfl⟩, Nat.le_refl _⟩
  case round =>
    clear H0
    obtain ⟨i, j, ao, ca, hin, rfl, rfl, HD, hji⟩ := hrel
    have t8 := HD.out.1.2.1.at 8 rfl
    by_cases hi : i < c.elems.length
    · obtain ⟨bk, off, rfl, hb, hc⟩ := HR.out.1 (by rw [flatL_len]; omega)
      obtain ⟨⟨xn, xs, xt, xv, xg⟩, hx⟩ : ∃ x, c.elems[i]? = some x := ⟨_, List.getElem?_eq_getElem hi⟩
      obtain ⟨g0, g1, g2, g3, g4⟩ := flatL_at c.elems i hx
      have hb1 : bk < h := HR.out.2 ▸ hb
      have k0 := (HD.out.1.1.cell (p := ⟨bk, off + i * 5, none⟩) (by exact hb1)).trans (hc _ _ g0)
      have k1 := (HD.out.1.1.cell (p := ⟨bk, off + i * 5 + 1, none⟩) (by exact hb1)).trans (hc _ _ g1)
      have k2 := (HD.out.1.1.cell (p := ⟨bk, off + i * 5 + 2, none⟩) (by exact hb1)).trans (hc _ _ g2)
      have k3 := (HD.out.1.1.cell (p := ⟨bk, off + i * 5 + 3, none⟩) (by exact hb1)).trans (hc _ _ g3)
      have k4 := (HD.out.1.1.cell (p := ⟨bk, off + i * 5 + 4, none⟩) (by exact hb1)).trans (hc _ _ g4)
      have HV : Hid (liveL (c.elems.take (i + 1)) = liveL (c.elems.take i) ++ (if xg then [] else [⟨xn, xs, xt, xv, xg⟩]) ∧ (liveL (c.elems.take i)).length = j) := ⟨liveL_step hx, HD.out.2⟩
      clear hc hx g0 g1 g2 g3 g4 hb
      simp only at k0 k1 k2 k3 k4
      generalize liveL (c.elems.take i) = l at *
      cases xg with
      | true =>
        have HV2 : Hid (liveL (c.elems.take (i + 1)) = l) := by
          have := HV.out.1
          simp at this
          exact this
        go_wp2
        go_roundg (gk - 1)
        case measure => omega
        case rel => exact ⟨i + 1, j, ao, ca, by omega, by go_num, rfl, by rw [HV2.out]; exact ⟨HD.out.1, HV.out.2⟩, by omega⟩
      | false =>
        have HV2 : Hid (liveL (c.elems.take (i + 1)) = l ++ [⟨xn, xs, xt, xv, false⟩]) := by
          have := HV.out.1
          simp at this
          exact this
        obtain ⟨n2, hn2⟩ : ∃ n, wr.heap.size = n := ⟨_, rfl⟩
        have R2 : FRow (wr.alloc (.cells (l5 ⟨xn, xs, xt, xv, false⟩).toArray 34)) (some ⟨n2, 0, none⟩) (l5 ⟨xn, xs, xt, xv, false⟩) := frow_newAt hn2 (l5 ⟨xn, xs, xt, xv, false⟩) _
        have HO : Hid (wr.ownsRow (h + 1) 34 5 (.slice ao j ca) j (flatL l)) := by
          have := HD.out.1.2.2
          rw [HV.out.2] at this
          exact this
        have hsz : h + 1 ≤ wr.heap.size := by have := HD.out.1.2.1.1; omega
        go_wp2_with (first
          | (at_builtin
             refine wpList_onto rfl _ _ 27 rfl Try.underlying27 Try.infoElem rfl (by decide) (by decide) (B := h + 1) rfl rfl (own_later HO.out ((Below.refl _ _).alloc (Nat.le_refl _) _)) R2 rfl (fun u hu => oneL (l := [⟨xn, xs, xt, xv, false⟩]) (by simpa [flatL] using hu)) (by omega) (by simp; omega) ?_
             intro bo cb w2 o2 n2 b2
             have H2 : Hid (Ll w h c ⟨eo, ec, some ⟨bk, off, none⟩, lc, so, sc⟩ (l ++ [⟨xn, xs, xt, xv, false⟩]) bo cb w2) := ll_grown HD.out.1 (by rw [HV.out.2]; exact o2) b2
             clear o2 n2 b2))
        go_roundg (gk - 1)
        case measure => omega
        case rel => exact ⟨i + 1, j + 1, bo, cb, by omega, by go_num, rfl, by rw [HV2.out]; exact ⟨H2.out, by simp [HV.out.2]⟩, by omega⟩
    · have hd : decide ((i : Int) < (c.elems.length : Int)) = false := by simp; omega
      have e : i = c.elems.length := by omega
      have HE : Hid (Ll w h c ⟨eo, ec, lo, lc, so, sc⟩ m ao ca wr ∧ m.length = j) := by
        have := HD.out
        rw [e, List.take_length, HMV.out] at this
        exact this
      clear HD
      go_wp2
      go_ret
      rw [← HE.out.2]
      exact ⟨ao, ⟨ca, rfl⟩, (own_row HE.out.1.2.2).mono (by omega), HE.out.1.1⟩

set_option maxHeartbeats 400000 in
set_option maxRecDepth 100000 in
/-- ListValues refuses. -/
theorem rlvals_no (c : Ce) (p : Pl) (w : World) (hk : (c.kind != 3) = true) :
    Calls Try.prog 17 #[ceV c p] w fun e w' => e = .returned (.tuple #[.slice none 0 0, .int .i64 1000]) ∧ Below w.heap.size w w' := by
  go_enter Try.func17, Try.ntmps17
  go_wp2
  go_ret2
  exact ⟨rfl, (Below.refl _ _).alloc (Nat.le_refl _) _⟩

set_option maxHeartbeats 2000000 in
set_option maxRecDepth 100000 in
/-- ListValues takes it. -/
theorem rlvals_yes (c : Ce) (p : Pl) (w : World) (hr : CRow w c p) (hf : Fit c) (hk : (c.kind != 3) = false) :
    Calls Try.prog 17 #[ceV c p] w fun e w' => ∃ ao ca, e = .returned (.tuple #[.slice ao (valsX c.elems).length ca, .int .i64 0]) ∧ FOwn w.heap.size w' ao (flatT (valsX c.elems)) ∧ Below w.heap.size w w' := by
  obtain ⟨h, hh⟩ : ∃ h, w.heap.size = h := ⟨_, rfl⟩
  have H0 : Hid (Wl w h c p [] none 0 (w.alloc (.cells (ceL c p).toArray 30))) := ⟨hh ▸ (Below.refl _ _).alloc (Nat.le_refl _) _, hh ▸ has_new w (ceL c p) _, own_nil _ _ _ _⟩
  have HR : Hid (CRow w c p ∧ Fit c ∧ w.heap.size = h) := ⟨hr, hf, hh⟩
  obtain ⟨m, hm⟩ : ∃ m, liveL c.elems = m := ⟨_, rfl⟩
  have hl : m.length * 48 ≤ 140737488351232 := by have := hf.2.1; have := live_le c.elems; rw [hm] at this; omega
  have CL := rlive_any c p _ (hr.later ((Below.refl w.heap.size w).alloc (Nat.le_refl _) (.cells (ceL c p).toArray 30))) hf
  unfold valsX
  rw [hm] at CL ⊢
  rw [hh]
  have HML : Hid ((m.map (·.val)).length = m.length) := List.length_map ..
  clear hr hf hm
  go_enter Try.func17, Try.ntmps17
  go_wp2_with fail
  refine CL.mono ?_
  rintro e w1 ⟨lo, lc, rfl, o1, b1⟩
  have H1 : Hid (Wl w h c p [] none 0 w1 ∧ FRow w1 lo (flatL m) ∧ (∀ W, Below w1.heap.size w1 W → FRow W lo (flatL m))) := ⟨wl_later H0.out b1, o1.row, fun W hW => o1.row.later hW⟩
  have HO1 : Hid (FOwn (h + 1) w1 lo (flatL m)) := o1.mono (by simp [hh])
  clear b1 H0 CL o1 hh
  go_wp2
  obtain ⟨n1, hn1⟩ : ∃ n, w1.heap.size = n := ⟨_, rfl⟩
  have HN1 : Hid (w1.heap.size = n1 ∧ h + 1 ≤ n1) := ⟨hn1, by have := H1.out.1.2.1.1; omega⟩
  clear hn1
  go_loopg [5, 6] m.length (fun n s5 iv wr => ∃ (i : Nat) (ao : Option Addr) (ca : Nat), i + n = m.length ∧ iv = .int .i64 i ∧ s5 = .slice ao i ca ∧ Hid (Below n1 w1 wr ∧ wr.ownsRow n1 9 1 (.slice ao i ca) i (flatT ((m.map (·.val)).take i))))
  case atStart => exact ⟨0, none, 0, by omega, rfl, rfl, Below.refl _ _, own_nil _ _ _ _⟩
  case round =>
    obtain ⟨i, ao, ca, hin, rfl, rfl, HD⟩ := hrel
    by_cases hi : i < m.length
    · obtain ⟨bk, off, rfl, hb, hc⟩ := H1.out.2.1 (by rw [flatL_len]; omega)
      obtain ⟨⟨xn, xs, xt, xv, xg⟩, hx⟩ : ∃ x, m[i]? = some x := ⟨_, List.getElem?_eq_getElem hi⟩
      obtain ⟨_, _, _, g3, _⟩ := flatL_at m i hx
      have hb1 : bk < n1 := HN1.out.1 ▸ hb
      have k3 := (HD.out.1.cell (p := ⟨bk, off + i * 5 + 3, none⟩) (by exact hb1)).trans (hc _ _ g3)
      simp only at k3
      have HV : Hid (flatT ((m.map (·.val)).take (i + 1)) = flatT ((m.map (·.val)).take i) ++ [.string xv]) := by
        show _ = _
        rw [List.take_add_one, List.getElem?_map, hx, flatT_append]
        rfl
      obtain ⟨n2, hn2⟩ : ∃ n, wr.heap.size = n := ⟨_, rfl⟩
      have R2 : FRow (wr.alloc (.cells #[.string xv] 9)) (some ⟨n2, 0, none⟩) [.string xv] := frow_newAt hn2 [.string xv] _
      have hsz : n1 ≤ wr.heap.size := by have := HD.out.1.size; have := HN1.out.1; omega
      clear hc hx g3 hb
      go_wp2_with (first
        | (at_builtin
           refine wpList_onto rfl _ _ 45 rfl Try.underlying45 Try.infoText rfl (by decide) (by decide) (B := n1) rfl rfl (own_later HD.out.2 ((Below.refl _ _).alloc (Nat.le_refl _) _)) R2 rfl (fun u hu => by obtain rfl := List.mem_singleton.1 hu; rfl) (by omega) (by simp; omega) ?_
           intro bo cb w2 o2 n2 b2
           have H2 : Hid (Below n1 w1 w2 ∧ w2.ownsRow n1 9 1 (.slice bo (i + 1) cb) (i + 1) (flatT ((m.map (·.val)).take (i + 1)))) := ⟨HD.out.1.trans (((Below.refl _ _).alloc hsz _).trans b2), by rw [HV.out]; exact o2⟩
           clear o2 n2 b2))
      go_roundg (gk - 1)
      case measure => omega
      case rel => exact ⟨i + 1, bo, cb, by omega, by go_num, rfl, H2.out⟩
    · have hd : decide ((i : Int) < (m.length : Int)) = false := by simp; omega
      have e : i = m.length := by omega
      subst e
      have HE : Hid (FOwn h wr ao (flatT (m.map (·.val))) ∧ Below h w wr) := by
        have o := own_row HD.out.2
        rw [List.take_of_length_le (by rw [HML.out]; exact Nat.le_refl _)] at o
        exact ⟨o.mono (by have := HN1.out.2; omega), H1.out.1.1.trans (HD.out.1.mono (by have := HN1.out.2; omega))⟩
      clear HD
      go_wp2
      go_ret2
      rw [HML.out]
      exact ⟨ao, ca, rfl, HE.out.1, HE.out.2⟩

set_option maxHeartbeats 400000 in
set_option maxRecDepth 100000 in
/-- The document's At refuses. -/
theorem rrat_no (c : Ce) (p : Pl) (k : Int) (w : World) (hk : (c.kind != 3) = true) :
    Calls Try.prog 19 #[ceV c p, .int .i64 k] w fun e w' => e = .returned (.tuple #[dv (0, 0), .int .i64 1000]) ∧ Below w.heap.size w w' := by
  have H0 : Hid (AtW w w.heap.size c p ((w.alloc (.cells (ceL c p).toArray 30)).alloc (.cells #[.int .i64 0, .int .i64 0] 32))) := atW_new _ _ _ _ _
  obtain ⟨h, hh⟩ : ∃ h, w.heap.size = h := ⟨_, rfl⟩
  rw [hh] at H0 ⊢
  go_enter Try.func19, Try.ntmps19
  go_wp2_with fail
  exact bodyPost_ret (ret_dot2 rfl rfl rfl H0.out.2.2) rfl ⟨rfl, H0.out.1⟩

set_option maxHeartbeats 1000000 in
set_option maxRecDepth 100000 in
/-- The document's At takes it. -/
theorem rrat_yes (c : Ce) (p : Pl) (k : Int) (w : World) (hr : CRow w c p) (hf : Fit c) (hk : (c.kind != 3) = false) :
    Calls Try.prog 19 #[ceV c p, .int .i64 k] w fun e w' => e = .returned (.tuple #[dv (atNum c.elems k).1, .int .i64 (atNum c.elems k).2]) ∧ Below w.heap.size w w' := by
  have H0 : Hid (AtW w w.heap.size c p ((w.alloc (.cells (ceL c p).toArray 30)).alloc (.cells #[.int .i64 0, .int .i64 0] 32))) := atW_new _ _ _ _ _
  obtain ⟨h, hh⟩ : ∃ h, w.heap.size = h := ⟨_, rfl⟩
  rw [hh] at H0 ⊢
  have hl : (liveL c.elems).length * 48 ≤ 140737488351232 := by have := hf.2.1; have := live_le c.elems; omega
  have CL := rlive_any c p _ (hr.later (hh.symm ▸ H0.out.1)) hf
  obtain ⟨m, hm⟩ : ∃ m, liveL c.elems = m := ⟨_, rfl⟩
  rw [hm] at CL hl
  by_cases h1 : 0 ≤ k ∧ k < (m.length : Int)
  · obtain ⟨h1a, h1b⟩ := h1
    obtain ⟨j, rfl⟩ : ∃ j : Nat, k = (j : Int) := ⟨k.toNat, by omega⟩
    obtain ⟨⟨xn, xs, xt, xv, xg⟩, hx⟩ : ∃ x, m[j]? = some x := ⟨_, List.getElem?_eq_getElem (by omega)⟩
    have e1 : atNum c.elems (j : Int) = ((xn, xs), 0) := atNum_some (by unfold atI atX; rw [if_pos (by omega), hm]; simp [hx])
    rw [e1]
    have HX : Hid (m[j]? = some ⟨xn, xs, xt, xv, xg⟩) := hx
    clear hr hf hm e1 hx
    have hjn : decide ((j : Int) < 0) = false := by simp
    have hjm : j < m.length := by omega
    go_enter Try.func19, Try.ntmps19
    go_wp2_with fail
    refine CL.mono ?_
    rintro e w1 ⟨lo, lc, rfl, o1, b1⟩
    have H1 : Hid (AtW w h c p w1) := atW_later H0.out b1
    obtain ⟨g, rfl, _, _, hc⟩ := o1 (by rw [flatL_len]; omega)
    obtain ⟨g0, g1, _, _, _⟩ := flatL_at m j HX.out
    have k0 := (hc _ _ g0).1
    have k1 := (hc _ _ g1).1
    simp only at k0 k1
    obtain ⟨y0, y1⟩ := H1.out.2.2.two
    have z0 := H1.out.2.2.free 0 rfl
    have z1 := H1.out.2.2.free 1 rfl
    clear o1 b1 hc g0 g1 CL H0
    have hle : decide ((m.length : Int) ≤ (j : Int)) = false := by simp; omega
    go_wp2_with fail
    exact at_end (d := (xn, xs)) H1.out rfl rfl rfl rfl
  · have e1 : atNum c.elems k = ((0, 0), 1001) := atNum_none (atI_none (by rw [hm]; omega))
    rw [e1]
    clear hr hf hm e1
    by_cases hkn : k < 0
    · have hd1 : decide (k < 0) = true := by simpa using hkn
      clear h1 hkn
      go_enter Try.func19, Try.ntmps19
      go_wp2_with fail
      refine CL.mono ?_
      rintro e w1 ⟨lo, lc, rfl, o1, b1⟩
      have H1 : Hid (AtW w h c p w1) := atW_later H0.out b1
      obtain ⟨y0, y1⟩ := H1.out.2.2.two
      have z0 := H1.out.2.2.free 0 rfl
      have z1 := H1.out.2.2.free 1 rfl
      clear o1 b1 CL H0
      go_wp2_with fail
      exact at_end (d := (0, 0)) H1.out rfl rfl rfl rfl
    · have hd1 : decide (k < 0) = false := by simpa using hkn
      have hd2 : decide ((m.length : Int) ≤ k) = true := by simp; omega
      clear h1 hkn
      go_enter Try.func19, Try.ntmps19
      go_wp2_with fail
      refine CL.mono ?_
      rintro e w1 ⟨lo, lc, rfl, o1, b1⟩
      have H1 : Hid (AtW w h c p w1) := atW_later H0.out b1
      obtain ⟨y0, y1⟩ := H1.out.2.2.two
      have z0 := H1.out.2.2.free 0 rfl
      have z1 := H1.out.2.2.free 1 rfl
      clear o1 b1 CL H0
      go_wp2_with fail
      exact at_end (d := (0, 0)) H1.out rfl rfl rfl rfl

end Go.Proofs.Ytaakhpibdpgjpaa
