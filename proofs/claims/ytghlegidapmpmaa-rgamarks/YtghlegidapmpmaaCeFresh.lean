/-
  Package fresh: copies of a cell and of its lists in memory of their own, by contracts.
-/
import Derived.Test.YtghlegidapmpmaaCeCopy
import Derived.Test.YtghlegidapmpmaaClone
import Derived.Deep.LoopGhost
import Derived.OwnWalk
namespace Go.Proofs.Ytghlegidapmpmaa
open Go.RowKit
set_option linter.unusedVariables false
set_option linter.unusedSimpArgs false

set_option maxHeartbeats 400000 in
set_option maxRecDepth 100000 in
theorem fints_any (ao : Option Addr) (ca : Nat) (l : List Int) (w : World) (hr : FRow w ao (flatI l)) (hn : l.length * 8 ≤ 140737488351232) :
    Calls Try.prog 28 #[.slice ao l.length ca] w fun e w' => ∃ bo cb, e = .returned (.slice bo l.length cb) ∧ FOwn w.heap.size w' bo (flatI l) ∧ (l.length = 0 → bo = none ∧ cb = 0) ∧ Below w.heap.size w w' := by
  go_enter Try.func28, Try.ntmps28
  go_wp2_with (at_builtin; refine wpList_copy rfl _ _ 22 rfl Try.underlying22 Try.infoSeen rfl (by decide) (by decide) (g := none) rfl rfl (own_none _ w.heap.size _ _) hr (flatI_len _) (fun u hu => oneI hu) (by omega) (Nat.le_refl _) ?_; intro bo cb w1 o1 n1 b1; have N1 : Hid (l.length = 0 → bo = none ∧ cb = 0) := n1 rfl; clear n1)
  go_ret
  exact ⟨bo, cb, rfl, o1, N1.out, b1⟩

set_option maxHeartbeats 1000000 in
set_option maxRecDepth 100000 in
theorem fents_any (ao : Option Addr) (ca : Nat) (l : List E3) (w : World) (hr : FRow w ao (flatE l)) (hn : l.length * 32 ≤ 140737488351232) (hs : ∀ (i : Nat) x, l[i]? = some x → x.val.size ≤ 140737488351232) :
    Calls Try.prog 26 #[.slice ao l.length ca] w fun e w' => ∃ bo cb, e = .returned (.slice bo l.length cb) ∧ FOwn w.heap.size w' bo (flatE l) ∧ (l.length = 0 → bo = none ∧ cb = 0) ∧ Below w.heap.size w w' := by
  have HS : Hid (∀ (i : Nat) x, l[i]? = some x → x.val.size ≤ 140737488351232) := hs
  clear hs
  obtain ⟨h, hh⟩ : ∃ h, w.heap.size = h := ⟨_, rfl⟩
  rw [hh]
  go_enter Try.func26, Try.ntmps26
  go_wp2_with (at_builtin; refine wpList_copy rfl _ _ 28 rfl Try.underlying28 Try.infoEntry rfl (by decide) (by decide) (g := none) rfl rfl (own_none _ h _ _) hr (flatE_len _) (fun u hu => oneE hu) (by omega) (by omega) ?_; intro bo cb w1 o1 n1 b1; have O1 : Hid (FOwn h w1 bo (flatE l) ∧ (l.length = 0 → bo = none ∧ cb = 0) ∧ Below h w w1) := ⟨o1, n1 rfl, b1⟩; clear o1 n1 b1 hr)
  by_cases h0 : 0 < l.length
  · obtain ⟨g, rfl, hg, hg1, _⟩ := O1.out.1 (by rw [flatE_len]; omega)
    go_loopg [8] l.length (fun n iv wr => ∃ i : Nat, i + n = l.length ∧ iv = .int .i64 i ∧ FOwn h wr (some ⟨g, 0, none⟩) (flatE l) ∧ Below h w wr)
    case atStart => exact ⟨0, by omega, rfl, O1.out.1, O1.out.2.2⟩
    case round =>
      obtain ⟨i, hin, rfl, hrel⟩ := hrel
      have HW : Hid (FOwn h wr (some ⟨g, 0, none⟩) (flatE l) ∧ Below h w wr) := hrel
      clear hrel
      by_cases hi : i < l.length
      · obtain ⟨x, hx⟩ : ∃ x, l[i]? = some x := ⟨_, List.getElem?_eq_getElem hi⟩
        obtain ⟨_, _, g2⟩ := flatE_at l i hx
        obtain ⟨b, eb, hb1, hb2, hc⟩ := HW.out.1 (by rw [flatE_len]; omega)
        simp only [Option.some.injEq, Addr.mk.injEq, and_true] at eb
        subst eb
        have k2 := (hc _ _ g2).1
        have C := clone_any x.val wr (by have := HS.out i x hx; omega)
        have G2 : Hid ((flatE l)[i * 3 + 2]? = some (.string x.val)) := g2
        clear hc g2 hx
        go_wp2_with fail
        refine C.mono ?_
        rintro e w2 ⟨rfl, b2⟩
        have O2 : Hid (FOwn h w2 (some ⟨g, 0, none⟩) (flatE l) ∧ Below h w w2) := ⟨HW.out.1.later b2, HW.out.2.trans (b2.mono (by omega))⟩
        obtain ⟨b, eb, _, hb3, hc⟩ := O2.out.1 (by rw [flatE_len]; omega)
        simp only [Option.some.injEq, Addr.mk.injEq, and_true] at eb
        subst eb
        have q2 := (hc _ _ G2.out).1
        have q3 := (hc _ _ G2.out).2
        clear C b2 k2 hc
        go_wp2
        go_roundg (gk - 1)
        case measure => omega
        case rel => exact ⟨i + 1, by omega, by go_num, O2.out.1.same G2.out, O2.out.2.setCell (p := ⟨g, i * 3 + 2, none⟩) hg _⟩
      · have hd : decide ((i : Int) < (l.length : Int)) = false := by simp; omega
        go_wp2
        go_ret
        exact ⟨_, _, rfl, HW.out.1, fun e => by omega, HW.out.2⟩
  · obtain rfl : l = [] := List.eq_nil_of_length_eq_zero (by omega)
    obtain ⟨rfl, rfl⟩ := O1.out.2.1 rfl
    refine wp_loop_rounds 1 ?_
    rw [rounds_succ]
    go_wp2
    go_ret
    exact ⟨_, _, rfl, O1.out.1, by first | exact fun _ => ⟨rfl, rfl⟩ | exact ⟨rfl, rfl⟩, O1.out.2.2⟩

set_option maxHeartbeats 1000000 in
set_option maxRecDepth 100000 in
theorem felems_any (ao : Option Addr) (ca : Nat) (l : List L5) (w : World) (hr : FRow w ao (flatL l)) (hn : l.length * 48 ≤ 140737488351232) (hs : ∀ (i : Nat) x, l[i]? = some x → x.val.size ≤ 140737488351232) :
    Calls Try.prog 27 #[.slice ao l.length ca] w fun e w' => ∃ bo cb, e = .returned (.slice bo l.length cb) ∧ FOwn w.heap.size w' bo (flatL l) ∧ (l.length = 0 → bo = none ∧ cb = 0) ∧ Below w.heap.size w w' := by
  have HS : Hid (∀ (i : Nat) x, l[i]? = some x → x.val.size ≤ 140737488351232) := hs
  clear hs
  obtain ⟨h, hh⟩ : ∃ h, w.heap.size = h := ⟨_, rfl⟩
  rw [hh]
  go_enter Try.func27, Try.ntmps27
  go_wp2_with (at_builtin; refine wpList_copy rfl _ _ 29 rfl Try.underlying29 Try.infoElem rfl (by decide) (by decide) (g := none) rfl rfl (own_none _ h _ _) hr (flatL_len _) (fun u hu => oneL hu) (by omega) (by omega) ?_; intro bo cb w1 o1 n1 b1; have O1 : Hid (FOwn h w1 bo (flatL l) ∧ (l.length = 0 → bo = none ∧ cb = 0) ∧ Below h w w1) := ⟨o1, n1 rfl, b1⟩; clear o1 n1 b1 hr)
  by_cases h0 : 0 < l.length
  · obtain ⟨g, rfl, hg, hg1, _⟩ := O1.out.1 (by rw [flatL_len]; omega)
    go_loopg [8] l.length (fun n iv wr => ∃ i : Nat, i + n = l.length ∧ iv = .int .i64 i ∧ FOwn h wr (some ⟨g, 0, none⟩) (flatL l) ∧ Below h w wr)
    case atStart => exact ⟨0, by omega, rfl, O1.out.1, O1.out.2.2⟩
    case round =>
      obtain ⟨i, hin, rfl, hrel⟩ := hrel
      have HW : Hid (FOwn h wr (some ⟨g, 0, none⟩) (flatL l) ∧ Below h w wr) := hrel
      clear hrel
      by_cases hi : i < l.length
      · obtain ⟨x, hx⟩ : ∃ x, l[i]? = some x := ⟨_, List.getElem?_eq_getElem hi⟩
        obtain ⟨_, _, _, g2, _⟩ := flatL_at l i hx
        obtain ⟨b, eb, hb1, hb2, hc⟩ := HW.out.1 (by rw [flatL_len]; omega)
        simp only [Option.some.injEq, Addr.mk.injEq, and_true] at eb
        subst eb
        have k2 := (hc _ _ g2).1
        have C := clone_any x.val wr (by have := HS.out i x hx; omega)
        have G2 : Hid ((flatL l)[i * 5 + 3]? = some (.string x.val)) := g2
        clear hc g2 hx
        go_wp2_with fail
        refine C.mono ?_
        rintro e w2 ⟨rfl, b2⟩
        have O2 : Hid (FOwn h w2 (some ⟨g, 0, none⟩) (flatL l) ∧ Below h w w2) := ⟨HW.out.1.later b2, HW.out.2.trans (b2.mono (by omega))⟩
        obtain ⟨b, eb, _, hb3, hc⟩ := O2.out.1 (by rw [flatL_len]; omega)
        simp only [Option.some.injEq, Addr.mk.injEq, and_true] at eb
        subst eb
        have q2 := (hc _ _ G2.out).1
        have q3 := (hc _ _ G2.out).2
        clear C b2 k2 hc
        go_wp2
        go_roundg (gk - 1)
        case measure => omega
        case rel => exact ⟨i + 1, by omega, by go_num, O2.out.1.same G2.out, O2.out.2.setCell (p := ⟨g, i * 5 + 3, none⟩) hg _⟩
      · have hd : decide ((i : Int) < (l.length : Int)) = false := by simp; omega
        go_wp2
        go_ret
        exact ⟨_, _, rfl, HW.out.1, fun e => by omega, HW.out.2⟩
  · obtain rfl : l = [] := List.eq_nil_of_length_eq_zero (by omega)
    obtain ⟨rfl, rfl⟩ := O1.out.2.1 rfl
    refine wp_loop_rounds 1 ?_
    rw [rounds_succ]
    go_wp2
    go_ret
    exact ⟨_, _, rfl, O1.out.1, by first | exact fun _ => ⟨rfl, rfl⟩ | exact ⟨rfl, rfl⟩, O1.out.2.2⟩

theorem Copy0.later {w w1 w2 : World} {h : Nat} {c : Ce} {p : Pl} (H : Copy0 w h c p w1) (hb : Below w1.heap.size w1 w2) : Copy0 w h c p w2 :=
  ⟨H.1.trans (hb.mono (by have := H.size; omega)), H.2.1.later hb, H.2.2.later hb⟩

theorem Copy0.row {w w1 : World} {h : Nat} {c : Ce} {p q : Pl} (H : Copy0 w h c q w1) (hh : w.heap.size = h) (R : CRow w c p) : CRow w1 c p := R.later (hh.symm ▸ H.1)

theorem Copy0.set4 {w w1 : World} {h : Nat} {c : Ce} {p : Pl} (H : Copy0 w h c p w1) : Copy0 w h c p (w1.setCell ⟨h, 4, none⟩ (.string c.val)) :=
  ⟨H.1.setCell (p := ⟨h, 4, none⟩) (Nat.le_refl _) _, H.2.1.put 4 _, H.2.2.other (by omega) _ _⟩
theorem Copy0.set7 {w w1 : World} {h : Nat} {c : Ce} {p : Pl} (H : Copy0 w h c p w1) (ao : Option Addr) (ca : Nat) : Copy0 w h c { p with eo := ao, ec := ca } (w1.setCell ⟨h, 7, none⟩ (.slice ao c.ents.length ca)) :=
  ⟨H.1.setCell (p := ⟨h, 7, none⟩) (Nat.le_refl _) _, H.2.1.put 7 _, H.2.2.other (by omega) _ _⟩
theorem Copy0.set8 {w w1 : World} {h : Nat} {c : Ce} {p : Pl} (H : Copy0 w h c p w1) (ao : Option Addr) (ca : Nat) : Copy0 w h c { p with lo := ao, lc := ca } (w1.setCell ⟨h, 8, none⟩ (.slice ao c.elems.length ca)) :=
  ⟨H.1.setCell (p := ⟨h, 8, none⟩) (Nat.le_refl _) _, H.2.1.put 8 _, H.2.2.other (by omega) _ _⟩
theorem Copy0.set9 {w w1 : World} {h : Nat} {c : Ce} {p : Pl} (H : Copy0 w h c p w1) (ao : Option Addr) (ca : Nat) : Copy0 w h c { p with so := ao, sc := ca } (w1.setCell ⟨h, 9, none⟩ (.slice ao c.seen.length ca)) :=
  ⟨H.1.setCell (p := ⟨h, 9, none⟩) (Nat.le_refl _) _, H.2.1.put 9 _, H.2.2.other (by omega) _ _⟩

/-- The end of a copy, whatever placement q. -/
theorem fresh_end {fn : Func} {act : Act} {w w3 : World} {h : Nat} {c : Ce} {q : Pl} (H : Copy0 w h c q w3) (HO : COwn (h + 2) w3 c q) (HN : Nils c q) (hr : fn.results = #[.cell 2 31]) (h2 : act.tmps[2]? = some (.pointer (some ⟨h + 1, 0, none⟩))) (hd : act.defers = []) :
    bodyPost Try.prog fn (fun e w' => ∃ q, e = .returned (ceV c q) ∧ COwn h w' c q ∧ Nils c q ∧ Below h w w') Exit.ret act (put10 w3 (h + 1) (.int .i64 c.kind) (.bool c.set) (.int .i64 c.time) (.int .i64 c.node) (.string c.val) (.int .i64 c.re) (.int .i64 c.im) (.slice q.eo c.ents.length q.ec) (.slice q.lo c.elems.length q.lc) (.slice q.so c.seen.length q.sc)) :=
  bodyPost_ret (ret_cell hr h2 (H.2.2.put10 _ _ _ _ _ _ _ _ _ _)) hd ⟨q, rfl, (HO.put10 (by omega) _ _ _ _ _ _ _ _ _ _).mono (by omega), HN, below_put10 H.1 (by omega) _ _ _ _ _ _ _ _ _ _⟩

set_option maxHeartbeats 1000000 in
set_option maxRecDepth 100000 in
theorem fcell_any (c : Ce) (p : Pl) (w : World) (hr : CRow w c p) (hf : Fit c) :
    Calls Try.prog 17 #[ceV c p] w fun e w' => ∃ q, e = .returned (ceV c q) ∧ COwn w.heap.size w' c q ∧ Nils c q ∧ Below w.heap.size w w' := by
  have H0 : Hid (Copy0 w w.heap.size c p (((w.alloc (.cells (ceL c p).toArray 31)).alloc (.cells (ceL ce0 pl0).toArray 31)))) := copy0_new w c p 31
  obtain ⟨h, hh⟩ : ∃ h, w.heap.size = h := ⟨_, rfl⟩
  rw [hh] at H0 ⊢
  have HR : Hid (CRow w c p ∧ Fit c) := ⟨hr, hf⟩
  have hv := hf.2.2.2.1
  clear hr hf
  go_enter Try.func17, Try.ntmps17
  go_wp2_with fail
  refine (clone_any c.val _ (by omega)).mono ?_
  rintro e w1 ⟨rfl, b1⟩
  have H1 : Hid (Copy0 w h c p w1) := H0.out.later b1
  have S1 : Hid (Copy0 w h c p (w1.setCell ⟨h, 4, none⟩ (.string c.val))) := H1.out.set4
  have t7 := H1.out.2.1.at 7 rfl
  have t4 := H1.out.2.1.at 4 rfl
  have y4 := H1.out.2.1.free 4 rfl
  clear b1 H0
  go_wp2_with fail
  refine (fents_any p.eo p.ec c.ents _ (S1.out.row hh HR.out.1).1 HR.out.2.1 HR.out.2.2.2.2.2.1).mono ?_
  rintro e w2 ⟨eo, ec, rfl, o2, n2, b2⟩
  have K2 : Hid (FOwn (h + 2) w2 eo (flatE c.ents) ∧ (c.ents.length = 0 → eo = none ∧ ec = 0)) := ⟨o2.mono S1.out.size, n2⟩
  have H2 : Hid (Copy0 w h c p w2) := S1.out.later b2
  have S2 : Hid (Copy0 w h c { p with eo := eo, ec := ec } (w2.setCell ⟨h, 7, none⟩ (.slice eo c.ents.length ec))) := H2.out.set7 eo ec
  clear t7 t4 y4 b2 n2 o2 H1 S1
  have t7 := H2.out.2.1.at 7 rfl
  have y7 := H2.out.2.1.free 7 rfl
  have t8 := H2.out.2.1.at 8 rfl
  go_wp2_with fail
  refine (felems_any p.lo p.lc c.elems _ (S2.out.row hh HR.out.1).2.1 HR.out.2.2.1 HR.out.2.2.2.2.2.2).mono ?_
  rintro e w3 ⟨lo, lc, rfl, o3, n3, b3⟩
  have K3 : Hid (FOwn (h + 2) w3 eo (flatE c.ents) ∧ FOwn (h + 2) w3 lo (flatL c.elems) ∧ (c.elems.length = 0 → lo = none ∧ lc = 0)) := ⟨(K2.out.1.off (g := h) (by omega) 7 _).later b3, o3.mono S2.out.size, n3⟩
  have H3 : Hid (Copy0 w h c { p with eo := eo, ec := ec } w3) := S2.out.later b3
  have S3 : Hid (Copy0 w h c { p with eo := eo, ec := ec, lo := lo, lc := lc } (w3.setCell ⟨h, 8, none⟩ (.slice lo c.elems.length lc))) := H3.out.set8 lo lc
  clear t7 y7 t8 b3 n3 o3 H2 S2
  have t8 := H3.out.2.1.at 8 rfl
  have y8 := H3.out.2.1.free 8 rfl
  have t9 := H3.out.2.1.at 9 rfl
  go_wp2_with fail
  refine (fints_any p.so p.sc c.seen _ (S3.out.row hh HR.out.1).2.2 HR.out.2.2.2.1).mono ?_
  rintro e w4 ⟨so, sc, rfl, o4, n4, b4⟩
  have H4 : Hid (Copy0 w h c { p with eo := eo, ec := ec, lo := lo, lc := lc } w4) := S3.out.later b4
  have E4 : Hid (COwn (h + 2) (w4.setCell ⟨h, 9, none⟩ (.slice so c.seen.length sc)) c ⟨eo, ec, lo, lc, so, sc⟩ ∧ Nils c ⟨eo, ec, lo, lc, so, sc⟩) :=
    ⟨⟨((K3.out.1.off (g := h) (by omega) 8 _).later b4).off (by omega) 9 _, ((K3.out.2.1.off (g := h) (by omega) 8 _).later b4).off (by omega) 9 _, (o4.mono S3.out.size).off (by omega) 9 _⟩, K2.out.2, K3.out.2.2, n4⟩
  have H5 : Hid (Copy0 w h c ⟨eo, ec, lo, lc, so, sc⟩ (w4.setCell ⟨h, 9, none⟩ (.slice so c.seen.length sc))) := H4.out.set9 so sc
  clear t8 y8 t9 b4 n4 o4 H3 S3
  obtain ⟨t0, t1, t2, t3, t4, t5, t6, t7, t8, t9⟩ := H4.out.2.1.ten
  have y9 := H4.out.2.1.free 9 rfl
  obtain ⟨s0, s1, s2, s3, s4, s5, s6, s7, s8, s9⟩ := H4.out.2.2.ten
  obtain ⟨z0, z1, z2, z3, z4, z5, z6, z7, z8, z9⟩ := H4.out.2.2.tenf
  go_wp2_with fail
  exact fresh_end (q := ⟨eo, ec, lo, lc, so, sc⟩) H5.out E4.out.1 E4.out.2 rfl rfl rfl

end Go.Proofs.Ytghlegidapmpmaa
