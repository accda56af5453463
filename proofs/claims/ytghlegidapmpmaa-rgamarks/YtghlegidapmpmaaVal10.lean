/-
  Package rga's Values and At, by contracts.
-/
import Derived.Test.YtghlegidapmpmaaFind10
import Derived.Test.YtghlegidapmpmaaTextsL
import Derived.Test.YtghlegidapmpmaaCeGen
namespace Go.Proofs.Ytghlegidapmpmaa
open Go.RowKit Go.Shelf
set_option linter.unusedVariables false
set_option linter.unusedSimpArgs false

theorem liveL_step {l : List L5} {i : Nat} {x : L5} (hx : l[i]? = some x) : liveL (l.take (i + 1)) = liveL (l.take i) ++ (if x.gone then [] else [x]) := by
  unfold liveL
  rw [List.take_add_one, hx, List.filter_append]
  cases h : x.gone <;> simp [h]
theorem valsX_step {l : List L5} {i : Nat} {x : L5} (hx : l[i]? = some x) : valsX (l.take (i + 1)) = valsX (l.take i) ++ (if x.gone then [] else [x.val]) := by
  unfold valsX
  rw [liveL_step hx]
  cases h : x.gone <;> simp
theorem valsX_len (l : List L5) : (valsX l).length = (liveL l).length := by simp [valsX]
theorem valsX_le (l : List L5) : (valsX l).length ≤ l.length := by rw [valsX_len]; exact live_le l

set_option maxHeartbeats 400000 in
set_option maxRecDepth 100000 in
/-- Values refuses. -/
theorem xvals_no (c : Ce) (p : Pl) (w : World) (hk : (c.kind != 3) = true) :
    Calls Try.prog 11 #[ceV c p] w fun e w' => e = .returned (.tuple #[.slice none 0 0, .int .i64 1000]) ∧ Below w.heap.size w w' := by
  go_enter Try.func11, Try.ntmps11
  go_wp2
  go_ret2
  exact ⟨rfl, (Below.refl _ _).alloc (Nat.le_refl _) _⟩

/-- What the loop keeps. -/
def Wl (w : World) (h : Nat) (c : Ce) (p : Pl) (l : List ByteArray) (ao : Option Addr) (ca : Nat) (wr : World) : Prop :=
  Below h w wr ∧ Has wr h (ceL c p) ∧ wr.ownsRow (h + 1) 9 1 (.slice ao l.length ca) l.length (flatT l)
theorem wl_later {w wr w2 : World} {h : Nat} {c : Ce} {p : Pl} {l : List ByteArray} {ao : Option Addr} {ca : Nat} (H : Wl w h c p l ao ca wr) (hb : Below wr.heap.size wr w2) : Wl w h c p l ao ca w2 :=
  ⟨H.1.trans (hb.mono (by have := H.2.1.1; omega)), H.2.1.later hb, own_later H.2.2 hb⟩
theorem wl_grown {w wr w2 : World} {h : Nat} {c : Ce} {p : Pl} {l : List ByteArray} {x : ByteArray} {ao bo : Option Addr} {ca cb : Nat} {o : Obj} (H : Wl w h c p l ao ca wr) (o2 : w2.ownsRow (h + 1) 9 1 (.slice bo (l.length + 1) cb) (l.length + 1) (flatT l ++ [.string x])) (b2 : Below (h + 1) (wr.alloc o) w2) : Wl w h c p (l ++ [x]) bo cb w2 := by
  have hs := H.2.1.1
  have hal : Below (h + 1) wr (wr.alloc o) := (Below.refl _ _).alloc (by omega) _
  refine ⟨H.1.trans ((hal.trans b2).mono (by omega)), H.2.1.under (by omega) (hal.trans b2), ?_⟩
  rw [flatT_append, List.length_append]
  exact o2

set_option maxHeartbeats 2000000 in
set_option maxRecDepth 100000 in
/-- Values takes it. -/
theorem xvals_yes (c : Ce) (p : Pl) (w : World) (hr : CRow w c p) (hf : Fit c) (hk : (c.kind != 3) = false) :
    Calls Try.prog 11 #[ceV c p] w fun e w' => ∃ ao ca, e = .returned (.tuple #[.slice ao (valsX c.elems).length ca, .int .i64 0]) ∧ FOwn w.heap.size w' ao (flatT (valsX c.elems)) ∧ Below w.heap.size w w' := by
  obtain ⟨h, hh⟩ : ∃ h, w.heap.size = h := ⟨_, rfl⟩
  obtain ⟨eo, ec, lo, lc, so, sc⟩ := p
  have H0 : Hid (Wl w h c ⟨eo, ec, lo, lc, so, sc⟩ [] none 0 (w.alloc (.cells (ceL c ⟨eo, ec, lo, lc, so, sc⟩).toArray 31))) := ⟨hh ▸ (Below.refl _ _).alloc (Nat.le_refl _) _, hh ▸ has_new w (ceL c ⟨eo, ec, lo, lc, so, sc⟩) _, own_nil _ _ _ _⟩
  have HR : Hid (FRow w lo (flatL c.elems) ∧ w.heap.size = h ∧ (∀ (i : Nat) x, c.elems[i]? = some x → x.val.size ≤ 140737488351232)) := ⟨hr.2.1, hh, hf.2.2.2.2.2⟩
  have hl := hf.2.1
  obtain ⟨m, hm⟩ : ∃ m, valsX c.elems = m := ⟨_, rfl⟩
  rw [hh, hm]
  have HMV : Hid (valsX c.elems = m) := hm
  clear hr hf hm
  go_enter Try.func11, Try.ntmps11
  go_wp2
  clear hh
  go_loopg [4, 6, 13] c.elems.length (fun n s4 _ iv wr => ∃ (i j : Nat) (ao : Option Addr) (ca : Nat), i + n = c.elems.length ∧ iv = .int .i64 i ∧ s4 = .slice ao j ca ∧ Hid (Wl w h c ⟨eo, ec, lo, lc, so, sc⟩ (valsX (c.elems.take i)) ao ca wr ∧ (valsX (c.elems.take i)).length = j) ∧ j ≤ i)
  case atStart => exact ⟨0, 0, none, 0, by omega, rfl, rfl, ⟨H0.out, rfl⟩, Nat.le_refl _⟩
  case round =>
    clear H0
    obtain ⟨i, j, ao, ca, hin, rfl, rfl, HD, hji⟩ := hrel
    by_cases hi : i < c.elems.length
    · obtain ⟨bk, off, rfl, hb, hc⟩ := HR.out.1 (by rw [flatL_len]; omega)
      obtain ⟨⟨xn, xs, xt, xv, xg⟩, hx⟩ : ∃ x, c.elems[i]? = some x := ⟨_, List.getElem?_eq_getElem hi⟩
      obtain ⟨g0, g1, g2, g3, g4⟩ := flatL_at c.elems i hx
      have hb1 : bk < h := HR.out.2.1 ▸ hb
      have k0 := (HD.out.1.1.cell (p := ⟨bk, off + i * 5, none⟩) (by exact hb1)).trans (hc _ _ g0)
      have k1 := (HD.out.1.1.cell (p := ⟨bk, off + i * 5 + 1, none⟩) (by exact hb1)).trans (hc _ _ g1)
      have k2 := (HD.out.1.1.cell (p := ⟨bk, off + i * 5 + 2, none⟩) (by exact hb1)).trans (hc _ _ g2)
      have k3 := (HD.out.1.1.cell (p := ⟨bk, off + i * 5 + 3, none⟩) (by exact hb1)).trans (hc _ _ g3)
      have k4 := (HD.out.1.1.cell (p := ⟨bk, off + i * 5 + 4, none⟩) (by exact hb1)).trans (hc _ _ g4)
      obtain ⟨n1, hn1⟩ : ∃ n, wr.heap.size = n := ⟨_, rfl⟩
      have hbn : bk < n1 := by have := HD.out.1.2.1.1; omega
      have hal : Below wr.heap.size wr (wr.alloc (.cells (l5 ⟨xn, xs, xt, xv, xg⟩).toArray 38)) := (Below.refl _ _).alloc (Nat.le_refl _) _
      have HE : Hid (Wl w h c ⟨eo, ec, some ⟨bk, off, none⟩, lc, so, sc⟩ (valsX (c.elems.take i)) ao ca (wr.alloc (.cells (l5 ⟨xn, xs, xt, xv, xg⟩).toArray 38)) ∧ Has (wr.alloc (.cells (l5 ⟨xn, xs, xt, xv, xg⟩).toArray 38)) n1 (l5 ⟨xn, xs, xt, xv, xg⟩)) := ⟨wl_later HD.out.1 hal, hn1 ▸ has_new wr (l5 ⟨xn, xs, xt, xv, xg⟩) _⟩
      have HV : Hid (valsX (c.elems.take (i + 1)) = valsX (c.elems.take i) ++ (if xg then [] else [xv]) ∧ (valsX (c.elems.take i)).length = j) := ⟨valsX_step hx, HD.out.2⟩
      have hxs := HR.out.2.2 i _ hx
      clear hc hx g0 g1 g2 g3 g4 hal hb
      generalize valsX (c.elems.take i) = l at *
      simp only at k0 k1 k2 k3 k4 hxs
      cases xg with
      | true =>
        have HV2 : Hid (valsX (c.elems.take (i + 1)) = l) := by
          have := HV.out.1
          simp at this
          exact this
        go_wp2
        go_roundg (gk - 1)
        case measure => omega
        case rel => exact ⟨i + 1, j, ao, ca, by omega, by go_num, rfl, by rw [HV2.out]; exact ⟨HE.out.1, HV.out.2⟩, by omega⟩
      | false =>
        have HV2 : Hid (valsX (c.elems.take (i + 1)) = l ++ [xv]) := by
          have := HV.out.1
          simp at this
          exact this
        go_wp2_with fail
        refine (clone_any xv _ (by omega)).mono ?_
        rintro e w1 ⟨rfl, b1⟩
        have H1 : Hid (Wl w h c ⟨eo, ec, some ⟨bk, off, none⟩, lc, so, sc⟩ l ao ca w1) := wl_later HE.out.1 b1
        obtain ⟨n2, hn2⟩ : ∃ n, w1.heap.size = n := ⟨_, rfl⟩
        have R2 : FRow (w1.alloc (.cells #[.string xv] 9)) (some ⟨n2, 0, none⟩) [.string xv] := frow_newAt hn2 [.string xv] _
        have HO : Hid (w1.ownsRow (h + 1) 9 1 (.slice ao j ca) j (flatT l)) := by
          have := H1.out.2.2
          rw [HV.out.2] at this
          exact this
        clear b1 k0 k1 k2 k3 k4 HE HD
        go_wp2_with (first
          | (at_builtin
             refine wpList_onto rfl _ _ 45 rfl Try.underlying45 Try.infoText rfl (by decide) (by decide) (B := h + 1) rfl rfl (own_later HO.out ((Below.refl _ _).alloc (Nat.le_refl _) _)) R2 rfl (fun u hu => by obtain rfl := List.mem_singleton.1 hu; rfl) (by omega) (by have := H1.out.2.1.1; simp at this ⊢; omega) ?_
             intro bo cb w2 o2 n2 b2
             have H2 : Hid (Wl w h c ⟨eo, ec, some ⟨bk, off, none⟩, lc, so, sc⟩ (l ++ [xv]) bo cb w2) := wl_grown H1.out (by rw [HV.out.2]; exact o2) b2
             clear o2 n2 b2))
        go_roundg (gk - 1)
        case measure => omega
        case rel => exact ⟨i + 1, j + 1, bo, cb, by omega, by go_num, rfl, by rw [HV2.out]; exact ⟨H2.out, by simp [HV.out.2]⟩, by omega⟩
    · have hd : decide ((i : Int) < (c.elems.length : Int)) = false := by simp; omega
      have e : i = c.elems.length := by omega
      have HE : Hid (Wl w h c ⟨eo, ec, lo, lc, so, sc⟩ m ao ca wr ∧ m.length = j) := by
        have := HD.out
        rw [e, List.take_length, HMV.out] at this
        exact this
      clear HD
      go_wp2
      go_ret2
      rw [← HE.out.2]
      exact ⟨ao, ca, rfl, (own_row HE.out.1.2.2).mono (by omega), HE.out.1.1⟩

/-! At. -/

/-- The dot of the k-th that is not gone. -/
def atI (l : List L5) (k : Int) : Option D2 := if 0 ≤ k then atX l k.toNat else none
theorem atI_found {l : List L5} {i : Nat} {x : L5} (hx : l[i]? = some x) (hg : x.gone = false) : atI l ((liveL (l.take i)).length : Int) = some (dotX x) := by
  unfold atI atX
  rw [if_pos (by omega), Int.toNat_natCast]
  have hi := (List.getElem?_eq_some_iff.1 hx).1
  have e : l = l.take i ++ x :: l.drop (i + 1) := by
    have : l.drop i = x :: l.drop (i + 1) := by rw [List.drop_eq_getElem_cons hi, (List.getElem?_eq_some_iff.1 hx).2]
    rw [← this, List.take_append_drop]
  have e2 : liveL l = liveL (l.take i) ++ x :: liveL (l.drop (i + 1)) := by
    conv => lhs; rw [e]
    rw [live_append, live_cons hg]
  rw [e2, List.getElem?_append_right (Nat.le_refl _)]
  simp
theorem atI_none {l : List L5} {k : Int} (h : k < 0 ∨ ((liveL l).length : Int) ≤ k) : atI l k = none := by
  unfold atI atX
  split
  · rw [List.getElem?_eq_none (by omega)]
    rfl
  · rfl

/-- What At begins with and keeps. -/
def AtW (w : World) (h : Nat) (c : Ce) (p : Pl) (wr : World) : Prop := Below h w wr ∧ Has wr h (ceL c p) ∧ Has wr (h + 1) [.int .i64 0, .int .i64 0]
theorem atW_later {w wr w2 : World} {h : Nat} {c : Ce} {p : Pl} (H : AtW w h c p wr) (hb : Below wr.heap.size wr w2) : AtW w h c p w2 := ⟨H.1.trans (hb.mono (by have := H.2.1.1; omega)), H.2.1.later hb, H.2.2.later hb⟩
theorem atW_new (w : World) (c : Ce) (p : Pl) (t1 t2 : TypeId) : AtW w w.heap.size c p ((w.alloc (.cells (ceL c p).toArray t1)).alloc (.cells #[.int .i64 0, .int .i64 0] t2)) := by
  refine ⟨((Below.refl _ _).alloc (Nat.le_refl _) _).alloc (by simp) _, (has_new _ _ _).alloc _, ?_⟩
  have := has_new (w.alloc (.cells (ceL c p).toArray t1)) [.int .i64 0, .int .i64 0] t2
  simpa using this
/-- What a function answers whose answers are a dot and a number. -/
theorem ret_dot2 {fn : Func} {tmps : Array Value} {t u : Tmp} {w : World} {g : Nat} {v u0 u1 : Value} (h : fn.results = #[.cell t 33, .tmp u]) (ht : tmps[t]? = some (.pointer (some ⟨g, 0, none⟩))) (hu : tmps[u]? = some v) (hg : Has w g [u0, u1]) :
    (results fn tmps).run Try.prog w = .ok (.tuple #[.agg #[u0, u1], v]) w := by
  have h0 := hg.at 0 rfl
  have h1 := hg.at 1 rfl
  simp [results, h, ht, hu, h0, h1, go_sem]
theorem at_end {fn : Func} {act : Act} {w wr : World} {h : Nat} {c : Ce} {p : Pl} {d : D2} {z : Int} (H : AtW w h c p wr) (hr : fn.results = #[.cell 4 33, .tmp 5]) (h4 : act.tmps[4]? = some (.pointer (some ⟨h + 1, 0, none⟩))) (h5 : act.tmps[5]? = some (.int .i64 z)) (hd : act.defers = []) :
    bodyPost Try.prog fn (fun e w' => e = .returned (.tuple #[dv d, .int .i64 z]) ∧ Below h w w') Exit.ret act ((wr.setCell ⟨h + 1, 0, none⟩ (.int .i64 d.1)).setCell ⟨h + 1, 1, none⟩ (.int .i64 d.2)) :=
  bodyPost_ret (ret_dot2 hr h4 h5 ((H.2.2.put 0 _).put 1 _)) hd ⟨rfl, (H.1.setCell (p := ⟨h + 1, 0, none⟩) (by show h ≤ h + 1; omega) _).setCell (p := ⟨h + 1, 1, none⟩) (by show h ≤ h + 1; omega) _⟩
theorem at_end2 {fn : Func} {act : Act} {w wr : World} {h : Nat} {c : Ce} {p : Pl} {d : D2} {z : Int} {o : Obj} (H : AtW w h c p wr) (hr : fn.results = #[.cell 4 33, .tmp 5]) (h4 : act.tmps[4]? = some (.pointer (some ⟨h + 1, 0, none⟩))) (h5 : act.tmps[5]? = some (.int .i64 z)) (hd : act.defers = []) :
    bodyPost Try.prog fn (fun e w' => e = .returned (.tuple #[dv d, .int .i64 z]) ∧ Below h w w') Exit.ret act (((wr.setCell ⟨h + 1, 0, none⟩ (.int .i64 d.1)).setCell ⟨h + 1, 1, none⟩ (.int .i64 d.2)).alloc o) :=
  bodyPost_ret (ret_dot2 hr h4 h5 (((H.2.2.put 0 _).put 1 _).alloc o)) hd ⟨rfl, ((H.1.setCell (p := ⟨h + 1, 0, none⟩) (by show h ≤ h + 1; omega) _).setCell (p := ⟨h + 1, 1, none⟩) (by show h ≤ h + 1; omega) _).alloc (by have := H.2.1.1; simp; omega) _⟩

set_option maxHeartbeats 400000 in
set_option maxRecDepth 100000 in
/-- At refuses. -/
theorem rat_no (c : Ce) (p : Pl) (k : Int) (w : World) (hk : (c.kind != 3) = true) :
    Calls Try.prog 13 #[ceV c p, .int .i64 k] w fun e w' => e = .returned (.tuple #[dv (0, 0), .int .i64 1000]) ∧ Below w.heap.size w w' := by
  have H0 : Hid (AtW w w.heap.size c p ((w.alloc (.cells (ceL c p).toArray 31)).alloc (.cells #[.int .i64 0, .int .i64 0] 33))) := atW_new _ _ _ _ _
  obtain ⟨h, hh⟩ : ∃ h, w.heap.size = h := ⟨_, rfl⟩
  rw [hh] at H0 ⊢
  go_enter Try.func13, Try.ntmps13
  go_wp2_with fail
  exact bodyPost_ret (ret_dot2 rfl rfl rfl H0.out.2.2) rfl ⟨rfl, H0.out.1⟩

/-- What At answers. -/
def atNum (l : List L5) (k : Int) : D2 × Int := match atI l k with
  | some d => (d, 0)
  | none => ((0, 0), 1001)
theorem atNum_some {l : List L5} {k : Int} {d : D2} (h : atI l k = some d) : atNum l k = (d, 0) := by unfold atNum; rw [h]
theorem atNum_none {l : List L5} {k : Int} (h : atI l k = none) : atNum l k = ((0, 0), 1001) := by unfold atNum; rw [h]

set_option maxHeartbeats 2000000 in
set_option maxRecDepth 100000 in
/-- At takes it. -/
theorem rat_yes (c : Ce) (p : Pl) (k : Int) (w : World) (hr : CRow w c p) (hf : Fit c) (hk : (c.kind != 3) = false) :
    Calls Try.prog 13 #[ceV c p, .int .i64 k] w fun e w' => e = .returned (.tuple #[dv (atNum c.elems k).1, .int .i64 (atNum c.elems k).2]) ∧ Below w.heap.size w w' := by
  obtain ⟨eo, ec, lo, lc, so, sc⟩ := p
  have H0 : Hid (AtW w w.heap.size c ⟨eo, ec, lo, lc, so, sc⟩ ((w.alloc (.cells (ceL c ⟨eo, ec, lo, lc, so, sc⟩).toArray 31)).alloc (.cells #[.int .i64 0, .int .i64 0] 33))) := atW_new _ _ _ _ _
  obtain ⟨h, hh⟩ : ∃ h, w.heap.size = h := ⟨_, rfl⟩
  have HR : Hid (FRow w lo (flatL c.elems) ∧ w.heap.size = h) := ⟨hr.2.1, hh⟩
  have hl := hf.2.1
  obtain ⟨⟨⟨a1, a2⟩, a3⟩, ha⟩ : ∃ a, atNum c.elems k = a := ⟨_, rfl⟩
  have HA : Hid (atNum c.elems k = ((a1, a2), a3)) := ha
  rw [hh] at H0 ⊢
  rw [ha]
  clear hr hf ha
  go_enter Try.func13, Try.ntmps13
  go_wp2
  clear hh
  go_loopg [6, 8, 16] c.elems.length (fun n s6 _ iv wr => ∃ (i j : Nat), i + n = c.elems.length ∧ iv = .int .i64 i ∧ s6 = .int .i64 j ∧ Hid (AtW w h c ⟨eo, ec, lo, lc, so, sc⟩ wr ∧ (liveL (c.elems.take i)).length = j) ∧ j ≤ i ∧ (k < 0 ∨ (j : Int) ≤ k))
  case atStart => exact ⟨0, 0, by omega, rfl, rfl, ⟨H0.out, rfl⟩, Nat.le_refl _, by omega⟩
  case round =>
    clear H0
    obtain ⟨i, j, hin, rfl, rfl, HD, hji, hkj⟩ := hrel
    by_cases hi : i < c.elems.length
    · obtain ⟨bk, off, rfl, hb, hc⟩ := HR.out.1 (by rw [flatL_len]; omega)
      obtain ⟨⟨xn, xs, xt, xv, xg⟩, hx⟩ : ∃ x, c.elems[i]? = some x := ⟨_, List.getElem?_eq_getElem hi⟩
      obtain ⟨g0, g1, g2, g3, g4⟩ := flatL_at c.elems i hx
      have hb1 : bk < h := HR.out.2 ▸ hb
      have k0 := (HD.out.1.1.cell (p := ⟨bk, off + i * 5, none⟩) (by exact hb1)).trans (hc _ _ g0)
      have k1 := (HD.out.1.1.cell (p := ⟨bk, off + i * 5 + 1, none⟩) (by exact hb1)).trans (hc _ _ g1)
      have k2 := (HD.out.1.1.cell (p := ⟨bk, off + i * 5 + 2, none⟩) (by exact hb1)).trans (hc _ _ g2)
      have k3 := (HD.out.1.1.cell (p := ⟨bk, off + i * 5 + 3, none⟩) (by exact hb1)).trans (hc _ _ g3)
      have k4 := (HD.out.1.1.cell (p := ⟨bk, off + i * 5 + 4, none⟩) (by exact hb1)).trans (hc _ _ g4)
      obtain ⟨n1, hn1⟩ : ∃ n, wr.heap.size = n := ⟨_, rfl⟩
      have hbn : bk < n1 := by have := HD.out.1.2.1.1; omega
      have hhn : h + 1 < n1 := by have := HD.out.1.2.2.1; omega
      have hal : Below wr.heap.size wr (wr.alloc (.cells (l5 ⟨xn, xs, xt, xv, xg⟩).toArray 38)) := (Below.refl _ _).alloc (Nat.le_refl _) _
      have HE : Hid (AtW w h c ⟨eo, ec, some ⟨bk, off, none⟩, lc, so, sc⟩ (wr.alloc (.cells (l5 ⟨xn, xs, xt, xv, xg⟩).toArray 38))) := atW_later HD.out.1 hal
      have HX : Hid (c.elems[i]? = some ⟨xn, xs, xt, xv, xg⟩) := hx
      have HV : Hid ((liveL (c.elems.take (i + 1))).length = j + (if xg then 0 else 1)) := by
        show _ = _
        rw [liveL_step hx, List.length_append, HD.out.2]
        cases xg <;> rfl
      clear hc hx g0 g1 g2 g3 g4 hal hb
      simp only at k0 k1 k2 k3 k4
      cases xg with
      | true =>
        go_wp2
        go_roundg (gk - 1)
        case measure => omega
        case rel => exact ⟨i + 1, j, by omega, by go_num, rfl, ⟨HE.out, HV.out⟩, by omega, hkj⟩
      | false =>
        by_cases hjk : (j : Int) = k
        · subst hjk
          have HF : Hid (a1 = xn ∧ a2 = xs ∧ a3 = 0) := by
            have h1 := HA.out
            rw [← HD.out.2, atNum_some (atI_found HX.out rfl)] at h1
            simp only [Prod.mk.injEq] at h1
            exact ⟨h1.1.1.symm, h1.1.2.symm, h1.2.symm⟩
          obtain ⟨y0, y1⟩ := HD.out.1.2.2.two
          have z0 := HD.out.1.2.2.free 0 rfl
          have z1 := HD.out.1.2.2.free 1 rfl
          have HG : Hid (AtW w h c ⟨eo, ec, some ⟨bk, off, none⟩, lc, so, sc⟩ wr) := HD.out.1
          clear HD HE
          go_wp2_with fail
          rw [HF.out.1, HF.out.2.1, HF.out.2.2]
          exact at_end2 (d := (xn, xs)) HG.out rfl rfl rfl rfl
        · have hne : ((j : Int) == k) = false := by simpa using hjk
          go_wp2
          go_roundg (gk - 1)
          case measure => omega
          case rel => exact ⟨i + 1, j + 1, by omega, by go_num, by go_num, ⟨HE.out, HV.out⟩, by omega, by omega⟩
    · have hd : decide ((i : Int) < (c.elems.length : Int)) = false := by simp; omega
      have e : i = c.elems.length := by omega
      have HF : Hid (a1 = 0 ∧ a2 = 0 ∧ a3 = 1001) := by
        have h1 := HD.out.2
        rw [e, List.take_length] at h1
        have h2 := HA.out
        rw [atNum_none (atI_none (by omega))] at h2
        simp only [Prod.mk.injEq] at h2
        exact ⟨h2.1.1.symm, h2.1.2.symm, h2.2.symm⟩
      have HG : Hid (AtW w h c ⟨eo, ec, lo, lc, so, sc⟩ wr) := HD.out.1
      obtain ⟨y0, y1⟩ := HD.out.1.2.2.two
      have z0 := HD.out.1.2.2.free 0 rfl
      have z1 := HD.out.1.2.2.free 1 rfl
      clear HD
      go_wp2_with fail
      rw [HF.out.1, HF.out.2.1, HF.out.2.2]
      exact at_end (d := (0, 0)) HG.out rfl rfl rfl rfl

end Go.Proofs.Ytghlegidapmpmaa
