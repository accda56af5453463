/-
  Package fresh's Cell, with the room of its elements.
-/
import Derived.Test.YtghlegidapmpmaaCeFresh
import Derived.Test.YtghlegidapmpmaaIns10
namespace Go.Proofs.Ytghlegidapmpmaa
open Go.RowKit Go.Shelf
set_option linter.unusedVariables false
set_option linter.unusedSimpArgs false

/-- The list's block is another one. -/
def Apart (ao : Option Addr) (xs : List Value) (row : Option Nat) : Prop := 0 < xs.length → ∀ b, ao = some ⟨b, 0, none⟩ → some b ≠ row

/-- A list stays while another one's row is written. -/
theorem gb_apart {w w' : World} {row : Option Nat} {B : Nat} {ao : Option Addr} {xs : List Value} (h : w.grownBy w' row) (hr : Apart ao xs row) (F : FOwn B w ao xs) : FOwn B w' ao xs := fun h0 => by
  obtain ⟨b, h1, h4, h2, h3⟩ := F h0
  have hne : some b ≠ row := hr h0 b h1
  exact ⟨b, h1, h4, Nat.lt_of_lt_of_le h2 h.size, fun i u hu => ⟨(World.cell?_of_block (a := ⟨b, i, none⟩) (h.block b h2 hne)).trans (h3 i u hu).1, (World.frozen?_of_block (a := ⟨b, i, none⟩) (h.block b h2 hne)).trans (h3 i u hu).2⟩⟩

/-- A cell's lists in memory of their own, the elements' row apart from the others. -/
def PartsL (B : Nat) (w : World) (c : Ce) (q : Pl) : Prop :=
  w.ownsRow B 38 5 (.slice q.lo c.elems.length q.lc) c.elems.length (flatL c.elems) ∧ FOwn B w q.eo (flatE c.ents) ∧ FOwn B w q.so (flatI c.seen) ∧ Apart q.eo (flatE c.ents) (Value.slice q.lo c.elems.length q.lc).ownBlock ∧ Apart q.so (flatI c.seen) (Value.slice q.lo c.elems.length q.lc).ownBlock

theorem PartsL.own {B : Nat} {w : World} {c : Ce} {q : Pl} (h : PartsL B w c q) : COwn B w c q := ⟨h.2.1, own_row h.1, h.2.2.1⟩
theorem PartsL.mono {B C : Nat} {w : World} {c : Ce} {q : Pl} (h : PartsL B w c q) (hC : C ≤ B) : PartsL C w c q := ⟨own_mono h.1 hC, h.2.1.mono hC, h.2.2.1.mono hC, h.2.2.2⟩
theorem PartsL.later {B : Nat} {w w' : World} {c : Ce} {q : Pl} (h : PartsL B w c q) (hb : Below w.heap.size w w') : PartsL B w' c q := ⟨own_later h.1 hb, h.2.1.later hb, h.2.2.1.later hb, h.2.2.2⟩
theorem PartsL.put10 {B : Nat} {w : World} {c : Ce} {q : Pl} (h : PartsL B w c q) {g : Nat} (hg : g < B) (u0 u1 u2 u3 u4 u5 u6 u7 u8 u9 : Value) : PartsL B (put10 w g u0 u1 u2 u3 u4 u5 u6 u7 u8 u9) c q :=
  ⟨own_put10 h.1 hg _ _ _ _ _ _ _ _ _ _, h.2.1.put10 hg _ _ _ _ _ _ _ _ _ _, h.2.2.1.put10 hg _ _ _ _ _ _ _ _ _ _, h.2.2.2⟩

/-- The end of a copy, whatever placement q. -/
theorem freshL_end {fn : Func} {act : Act} {w w3 : World} {h : Nat} {c : Ce} {q : Pl} (H : Copy0 w h c q w3) (HO : PartsL (h + 2) w3 c q) (hr : fn.results = #[.cell 2 31]) (h2 : act.tmps[2]? = some (.pointer (some ⟨h + 1, 0, none⟩))) (hd : act.defers = []) :
    bodyPost Try.prog fn (fun e w' => ∃ q, e = .returned (ceV c q) ∧ PartsL h w' c q ∧ Below h w w') Exit.ret act (put10 w3 (h + 1) (.int .i64 c.kind) (.bool c.set) (.int .i64 c.time) (.int .i64 c.node) (.string c.val) (.int .i64 c.re) (.int .i64 c.im) (.slice q.eo c.ents.length q.ec) (.slice q.lo c.elems.length q.lc) (.slice q.so c.seen.length q.sc)) :=
  bodyPost_ret (ret_cell hr h2 (H.2.2.put10 _ _ _ _ _ _ _ _ _ _)) hd ⟨q, rfl, (HO.put10 (by omega) _ _ _ _ _ _ _ _ _ _).mono (by omega), below_put10 H.1 (by omega) _ _ _ _ _ _ _ _ _ _⟩

set_option maxHeartbeats 1000000 in
set_option maxRecDepth 100000 in
theorem felemsO_any (ao : Option Addr) (ca : Nat) (l : List L5) (w : World) (hr : FRow w ao (flatL l)) (hn : l.length * 48 ≤ 140737488351232) (hs : ∀ (i : Nat) x, l[i]? = some x → x.val.size ≤ 140737488351232) :
    Calls Try.prog 27 #[.slice ao l.length ca] w fun e w' => ∃ bo cb, e = .returned (.slice bo l.length cb) ∧ w'.ownsRow w.heap.size 38 5 (.slice bo l.length cb) l.length (flatL l) ∧ Below w.heap.size w w' := by
  have HS : Hid (∀ (i : Nat) x, l[i]? = some x → x.val.size ≤ 140737488351232) := hs
  clear hs
  obtain ⟨h, hh⟩ : ∃ h, w.heap.size = h := ⟨_, rfl⟩
  rw [hh]
  go_enter Try.func27, Try.ntmps27
  go_wp2_with (at_builtin; refine wpList_onto rfl _ _ 29 rfl Try.underlying29 Try.infoElem rfl (by decide) (by decide) (B := h) rfl rfl (own_nil w h _ _) hr (flatL_len _) (fun u hu => oneL hu) (by omega) (by omega) ?_; intro bo cb w1 o1 n1 b1; simp only [Nat.zero_add, List.nil_append] at o1 ⊢; have O1 : Hid (w1.ownsRow h 38 5 (.slice bo l.length cb) l.length (flatL l) ∧ Below h w w1) := ⟨o1, b1⟩; clear o1 n1 b1 hr)
  by_cases h0 : 0 < l.length
  · obtain ⟨g, rfl, hg, hg1, _⟩ := own_row O1.out.1 (by rw [flatL_len]; omega)
    go_loopg [8] l.length (fun n iv wr => ∃ i : Nat, i + n = l.length ∧ iv = .int .i64 i ∧ wr.ownsRow h 38 5 (.slice (some ⟨g, 0, none⟩) l.length cb) l.length (flatL l) ∧ Below h w wr)
    case atStart => exact ⟨0, by omega, rfl, O1.out.1, O1.out.2⟩
    case round =>
      obtain ⟨i, hin, rfl, hrel⟩ := hrel
      have HW : Hid (wr.ownsRow h 38 5 (.slice (some ⟨g, 0, none⟩) l.length cb) l.length (flatL l) ∧ Below h w wr) := hrel
      clear hrel
      by_cases hi : i < l.length
      · obtain ⟨x, hx⟩ : ∃ x, l[i]? = some x := ⟨_, List.getElem?_eq_getElem hi⟩
        obtain ⟨_, _, _, g2, _⟩ := flatL_at l i hx
        obtain ⟨b, eb, hb1, hb2, hc⟩ := own_row HW.out.1 (by rw [flatL_len]; omega)
        simp only [Option.some.injEq, Addr.mk.injEq, and_true] at eb
        subst eb
        have k2 := (hc _ _ g2).1
        have C := clone_any x.val wr (by have := HS.out i x hx; omega)
        have G2 : Hid ((flatL l)[i * 5 + 3]? = some (.string x.val)) := g2
        clear hc g2 hx
        go_wp2_with fail
        refine C.mono ?_
        rintro e w2 ⟨rfl, b2⟩
        have O2 : Hid (w2.ownsRow h 38 5 (.slice (some ⟨g, 0, none⟩) l.length cb) l.length (flatL l) ∧ Below h w w2) := ⟨own_later HW.out.1 b2, HW.out.2.trans (b2.mono (by omega))⟩
        obtain ⟨b, eb, _, hb3, hc⟩ := own_row O2.out.1 (by rw [flatL_len]; omega)
        simp only [Option.some.injEq, Addr.mk.injEq, and_true] at eb
        subst eb
        have q2 := (hc _ _ G2.out).1
        have q3 := (hc _ _ G2.out).2
        clear C b2 k2 hc
        go_wp2
        go_roundg (gk - 1)
        case measure => omega
        case rel => exact ⟨i + 1, by omega, by go_num, own_same O2.out.1 G2.out, O2.out.2.setCell (p := ⟨g, i * 5 + 3, none⟩) hg _⟩
      · have hd : decide ((i : Int) < (l.length : Int)) = false := by simp; omega
        go_wp2
        go_ret
        exact ⟨_, _, rfl, HW.out.1, HW.out.2⟩
  · obtain rfl : l = [] := List.eq_nil_of_length_eq_zero (by omega)
    refine wp_loop_rounds 1 ?_
    rw [rounds_succ]
    go_wp2
    go_ret
    exact ⟨_, _, rfl, O1.out.1, O1.out.2⟩

set_option maxHeartbeats 1000000 in
set_option maxRecDepth 100000 in
theorem fcellL_any (c : Ce) (p : Pl) (w : World) (hr : CRow w c p) (hf : Fit c) :
    Calls Try.prog 17 #[ceV c p] w fun e w' => ∃ q, e = .returned (ceV c q) ∧ PartsL w.heap.size w' c q ∧ Below w.heap.size w w' := by
  have H0 : Hid (Copy0 w w.heap.size c p (((w.alloc (.cells (ceL c p).toArray 31)).alloc (.cells (ceL ce0 pl0).toArray 31)))) := copy0_new w c p 31
  obtain ⟨h, hh⟩ : ∃ h, w.heap.size = h := ⟨_, rfl⟩
  rw [hh] at H0 ⊢
  have HR : Hid (CRow w c p ∧ Fit c) := ⟨hr, hf⟩
  have hv := hf.2.2.2.1
  clear hr hf
  go_enter Try.func17, Try.ntmps17
  go_wp2_with fail
  refine (clone_any c.val _ (by omega)).mono ?_
  rintro e w1 ⟨rfl, b1⟩
  have H1 : Hid (Copy0 w h c p w1) := H0.out.later b1
  have S1 : Hid (Copy0 w h c p (w1.setCell ⟨h, 4, none⟩ (.string c.val))) := H1.out.set4
  have t7 := H1.out.2.1.at 7 rfl
  have t4 := H1.out.2.1.at 4 rfl
  have y4 := H1.out.2.1.free 4 rfl
  clear b1 H0
  go_wp2_with fail
  refine (fents_any p.eo p.ec c.ents _ (S1.out.row hh HR.out.1).1 HR.out.2.1 HR.out.2.2.2.2.2.1).mono ?_
  rintro e w2 ⟨eo, ec, rfl, o2, n2, b2⟩
  obtain ⟨m1, hm1⟩ : ∃ m1, w2.heap.size = m1 := ⟨_, rfl⟩
  have K2 : Hid (FOwn (h + 2) w2 eo (flatE c.ents) ∧ (0 < (flatE c.ents).length → ∀ b, eo = some ⟨b, 0, none⟩ → b < m1) ∧ h + 2 ≤ m1) := ⟨o2.mono S1.out.size, fun h0 b hb => by
    obtain ⟨b', e1, _, l1, _⟩ := o2 h0
    rw [hb] at e1
    simp only [Option.some.injEq, Addr.mk.injEq, and_true] at e1
    omega, by have := S1.out.size; have := b2.size; omega⟩
  have HM : Hid (w2.heap.size = m1) := hm1
  clear hm1 n2
  have H2 : Hid (Copy0 w h c p w2) := S1.out.later b2
  have S2 : Hid (Copy0 w h c { p with eo := eo, ec := ec } (w2.setCell ⟨h, 7, none⟩ (.slice eo c.ents.length ec))) := H2.out.set7 eo ec
  clear t7 t4 y4 b2 o2 H1 S1
  have t7 := H2.out.2.1.at 7 rfl
  have y7 := H2.out.2.1.free 7 rfl
  have t8 := H2.out.2.1.at 8 rfl
  go_wp2_with fail
  refine (felemsO_any p.lo p.lc c.elems _ (S2.out.row hh HR.out.1).2.1 HR.out.2.2.1 HR.out.2.2.2.2.2.2).mono ?_
  rintro e w3 ⟨lo, lc, rfl, o3, b3⟩
  obtain ⟨m2, hm2⟩ : ∃ m2, w3.heap.size = m2 := ⟨_, rfl⟩
  have hs3 : m1 ≤ m2 := by have := b3.size; rw [← HM.out, ← hm2]; simpa using this
  have K3 : Hid (w3.ownsRow m1 38 5 (.slice lo c.elems.length lc) c.elems.length (flatL c.elems) ∧ FOwn (h + 2) w3 eo (flatE c.ents) ∧ (∀ g, (Value.slice lo c.elems.length lc).ownBlock = some g → m1 ≤ g ∧ g < m2)) := by
    have o3' : w3.ownsRow m1 38 5 (.slice lo c.elems.length lc) c.elems.length (flatL c.elems) := own_mono o3 (by rw [← HM.out]; simp)
    exact ⟨o3', (K2.out.1.off (g := h) (by omega) 7 _).later b3, fun g hg => ⟨(o3'.lt g hg).1, hm2 ▸ (o3'.lt g hg).2⟩⟩
  have HM2 : Hid (w3.heap.size = m2) := hm2
  have H3 : Hid (Copy0 w h c { p with eo := eo, ec := ec } w3) := S2.out.later b3
  have S3 : Hid (Copy0 w h c { p with eo := eo, ec := ec, lo := lo, lc := lc } (w3.setCell ⟨h, 8, none⟩ (.slice lo c.elems.length lc))) := H3.out.set8 lo lc
  clear t7 y7 t8 b3 o3 H2 S2 hm2
  have t8 := H3.out.2.1.at 8 rfl
  have y8 := H3.out.2.1.free 8 rfl
  have t9 := H3.out.2.1.at 9 rfl
  go_wp2_with fail
  refine (fints_any p.so p.sc c.seen _ (S3.out.row hh HR.out.1).2.2 HR.out.2.2.2.1).mono ?_
  rintro e w4 ⟨so, sc, rfl, o4, n4, b4⟩
  have H4 : Hid (Copy0 w h c { p with eo := eo, ec := ec, lo := lo, lc := lc } w4) := S3.out.later b4
  have hm3 := K2.out.2.2
  have E4 : Hid (PartsL (h + 2) (w4.setCell ⟨h, 9, none⟩ (.slice so c.seen.length sc)) c ⟨eo, ec, lo, lc, so, sc⟩) := by
    have o4' : FOwn m2 w4 so (flatI c.seen) := o4.mono (by rw [← HM2.out]; simp)
    refine ⟨own_mono (ownsRow_setCell_below (own_later (ownsRow_setCell_below K3.out.1 (a := ⟨h, 8, none⟩) (by show h < m1; omega) _) b4) (a := ⟨h, 9, none⟩) (by show h < m1; omega) _) hm3, ((K3.out.2.1.off (g := h) (by omega) 8 _).later b4).off (by omega) 9 _, (o4'.mono (by omega)).off (by omega) 9 _, fun h0 b hb e => ?_, fun h0 b hb e => ?_⟩
    · have := (K3.out.2.2 b e.symm).1
      have := K2.out.2.1 h0 b hb
      omega
    · obtain ⟨b', e1, l1, _, _⟩ := o4' h0
      have hb' : so = some ⟨b, 0, none⟩ := hb
      rw [hb'] at e1
      simp only [Option.some.injEq, Addr.mk.injEq, and_true] at e1
      have := (K3.out.2.2 b e.symm).2
      omega
  have H5 : Hid (Copy0 w h c ⟨eo, ec, lo, lc, so, sc⟩ (w4.setCell ⟨h, 9, none⟩ (.slice so c.seen.length sc))) := H4.out.set9 so sc
  clear t8 y8 t9 b4 n4 o4 H3 S3
  obtain ⟨t0, t1, t2, t3, t4, t5, t6, t7, t8, t9⟩ := H4.out.2.1.ten
  have y9 := H4.out.2.1.free 9 rfl
  obtain ⟨s0, s1, s2, s3, s4, s5, s6, s7, s8, s9⟩ := H4.out.2.2.ten
  obtain ⟨z0, z1, z2, z3, z4, z5, z6, z7, z8, z9⟩ := H4.out.2.2.tenf
  go_wp2_with fail
  exact freshL_end (q := ⟨eo, ec, lo, lc, so, sc⟩) H5.out E4.out rfl rfl rfl

end Go.Proofs.Ytghlegidapmpmaa
