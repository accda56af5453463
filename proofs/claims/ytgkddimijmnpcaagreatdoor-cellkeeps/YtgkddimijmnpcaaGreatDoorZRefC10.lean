/-
  The document's copy of a cell, its lists apart; its own Erase, Compact, Insert, by contracts.
-/
import Derived.Test.YtgkddimijmnpcaaGreatDoorZPack3
import Derived.Test.YtgkddimijmnpcaaGreatDoorZInsR10
namespace Go.Proofs.YtgkddimijmnpcaaGreatDoor
open Go.RowKit Go.Shelf
set_option linter.unusedVariables false
set_option linter.unusedSimpArgs false

theorem fown_lt {B b : Nat} {w : World} {ao : Option Addr} {xs : List Value} (h : FOwn B w ao xs) (h0 : 0 < xs.length) (hb : ao = some ⟨b, 0, none⟩) : B ≤ b ∧ b < w.heap.size := by
  obtain ⟨b', e, h1, h2, _⟩ := h h0
  rw [hb] at e
  simp only [Option.some.injEq, Addr.mk.injEq, and_true] at e
  omega

/-- Two lists in blocks of their own. -/
def ApartF (ao : Option Addr) (xs : List Value) (bo : Option Addr) (ys : List Value) : Prop := 0 < ys.length → 0 < xs.length → ∀ b g, ao = some ⟨b, 0, none⟩ → bo = some ⟨g, 0, none⟩ → b ≠ g
def PartsR (B : Nat) (w : World) (c : Ce) (q : Pl) : Prop := COwn B w c q ∧ ApartF q.eo (flatE c.ents) q.lo (flatL c.elems) ∧ ApartF q.so (flatI c.seen) q.lo (flatL c.elems)

/-- The end of a copy. -/
theorem copyP_end {fn : Func} {act : Act} {w w3 : World} {h : Nat} {c : Ce} {p : Pl} {ao bo so : Option Addr} {ca cb cs : Nat} (H : Copy3 w h c p ao ca bo cb so w3) (a1 : ApartF ao (flatE c.ents) bo (flatL c.elems)) (a2 : ApartF so (flatI c.seen) bo (flatL c.elems)) (hr : fn.results = #[.cell 2 30]) (h2 : act.tmps[2]? = some (.pointer (some ⟨h + 1, 0, none⟩))) (hd : act.defers = []) :
    bodyPost Tryz.prog fn (fun e w' => ∃ q, e = .returned (ceV c q) ∧ PartsR h w' c q ∧ Below h w w') Exit.ret act (put10 (w3.setCell ⟨h, 9, none⟩ (.slice so c.seen.length cs)) (h + 1) (.int .i64 c.kind) (.bool c.set) (.int .i64 c.time) (.int .i64 c.node) (.string c.val) (.int .i64 c.re) (.int .i64 c.im) (.slice ao c.ents.length ca) (.slice bo c.elems.length cb) (.slice so c.seen.length cs)) := by
  have H2 := (H.2.2.1.other (k := h) (by omega) 9 (.slice so c.seen.length cs)).put10 (.int .i64 c.kind) (.bool c.set) (.int .i64 c.time) (.int .i64 c.node) (.string c.val) (.int .i64 c.re) (.int .i64 c.im) (.slice ao c.ents.length ca) (.slice bo c.elems.length cb) (.slice so c.seen.length cs)
  have HO : COwn (h + 2) (w3.setCell ⟨h, 9, none⟩ (.slice so c.seen.length cs)) c ⟨ao, ca, bo, cb, so, cs⟩ := ⟨H.2.2.2.1.off (by omega) 9 _, H.2.2.2.2.1.off (by omega) 9 _, H.2.2.2.2.2.off (by omega) 9 _⟩
  exact bodyPost_ret (ret_cell hr h2 H2) hd ⟨⟨ao, ca, bo, cb, so, cs⟩, rfl, ⟨(HO.put10 (by omega) _ _ _ _ _ _ _ _ _ _).mono (by omega), a1, a2⟩, below_put10 (H.1.setCell (p := ⟨h, 9, none⟩) (Nat.le_refl _) _) (by omega) _ _ _ _ _ _ _ _ _ _⟩

set_option maxHeartbeats 1000000 in
set_option maxRecDepth 100000 in
theorem rcopyP_any (c : Ce) (p : Pl) (w : World) (hr : CRow w c p) (hf : Fit c) :
    Calls Tryz.prog 117 #[ceV c p] w fun e w' => ∃ q, e = .returned (ceV c q) ∧ PartsR w.heap.size w' c q ∧ Below w.heap.size w w' := by
  obtain ⟨f1, f2, f3, _⟩ := hf
  have H0 : Hid (Copy0 w w.heap.size c p (((w.alloc (.cells (ceL c p).toArray 30)).alloc (.cells (ceL ce0 pl0).toArray 30)))) := copy0_new w c p 30
  obtain ⟨h, hh⟩ : ∃ h, w.heap.size = h := ⟨_, rfl⟩
  rw [hh] at H0 ⊢
  have HR : Hid (CRow w c p) := hr
  clear hr
  go_enter Tryz.func117, Tryz.ntmps117
  go_wp2_with (first
    | (at_builtin
       refine wpList_copy rfl _ _ 26 rfl (B := h + 1 + 1) Tryz.underlying26 Tryz.infoEntry rfl (by decide) (by decide) (g := some (h + 1 + 1)) rfl rfl (own_empty (by simp [hh])) (HR.out.later (hh.symm ▸ (H0.out.1.alloc (by have := H0.out.size; omega) _))).1 (flatE_len _) (fun u hu => oneE hu) (by omega) (by simp [hh]) ?_
       intro ao1 ca1 w1 o1 _ b1
       have H1 : Hid (Copy1 w h c p ao1 w1) := copy1_of (by omega) H0.out o1 b1
       have hs1 := H1.out.size
       obtain ⟨k1, hk1⟩ : ∃ k, w1.heap.size = k := ⟨_, rfl⟩
       rw [hk1] at hs1
       obtain ⟨t0, t1, t2, t3, t4, t5, t6, t7, t8, t9⟩ := H1.out.2.1.ten
       have y7 := H1.out.2.1.free 7 rfl
       have y8 := H1.out.2.1.free 8 rfl
       have hlt1 : h < k1 := by omega
       have B1 : Hid (∀ b, 0 < (flatE c.ents).length → ao1 = some ⟨b, 0, none⟩ → b < k1) := fun b h0 hb => hk1 ▸ (fown_lt o1 h0 hb).2
       clear o1 b1 H0)
    | (at_builtin
       refine wpList_copy rfl _ _ 27 rfl (B := k1) Tryz.underlying27 Tryz.infoElem rfl (by decide) (by decide) (g := some k1) rfl rfl (own_empty (by simp [hk1])) (copy1_row hh H1.out HR.out _ _).2.1 (flatL_len _) (fun u hu => oneL hu) (by omega) (by simp [hk1]) ?_
       intro ao2 ca2 w2 o2 _ b2
       have H2 : Hid (Copy2 w h c p ao1 ca1 ao2 w2) := copy2_of hk1 H1.out o2 b2
       have hs2 := H2.out.size
       obtain ⟨k2, hk2⟩ : ∃ k, w2.heap.size = k := ⟨_, rfl⟩
       rw [hk2] at hs2
       clear t0 t1 t2 t3 t4 t5 t6 t7 t8 t9 y7 y8
       obtain ⟨t0, t1, t2, t3, t4, t5, t6, t7, t8, t9⟩ := H2.out.2.1.ten
       have y8 := H2.out.2.1.free 8 rfl
       have y9 := H2.out.2.1.free 9 rfl
       have hlt2 : h < k2 := by omega
       have B2 : Hid (∀ b, 0 < (flatL c.elems).length → ao2 = some ⟨b, 0, none⟩ → k1 ≤ b ∧ b < k2) := fun b h0 hb => hk2 ▸ fown_lt o2 h0 hb
       clear o2 b2 H1 hk1 hs1 hlt1)
    | (at_builtin
       refine wpList_copy rfl _ _ 28 rfl (B := k2) Tryz.underlying28 Tryz.infoSeen rfl (by decide) (by decide) (g := some k2) rfl rfl (own_empty (by simp [hk2])) (copy2_row hh H2.out HR.out _ _).2.2 (flatI_len _) (fun u hu => oneI hu) (by omega) (by simp [hk2]) ?_
       intro ao3 ca3 w3 o3 _ b3
       have H3 : Hid (Copy3 w h c p ao1 ca1 ao2 ca2 ao3 w3) := copy3_of hk2 H2.out o3 b3
       clear t0 t1 t2 t3 t4 t5 t6 t7 t8 t9 y8 y9
       obtain ⟨t0, t1, t2, t3, t4, t5, t6, t7, t8, t9⟩ := H3.out.2.1.ten
       have y9 := H3.out.2.1.free 9 rfl
       obtain ⟨s0, s1, s2, s3, s4, s5, s6, s7, s8, s9⟩ := H3.out.2.2.1.ten
       obtain ⟨z0, z1, z2, z3, z4, z5, z6, z7, z8, z9⟩ := H3.out.2.2.1.tenf
       have B3 : Hid (∀ b, 0 < (flatI c.seen).length → ao3 = some ⟨b, 0, none⟩ → k2 ≤ b) := fun b h0 hb => (fown_lt o3 h0 hb).1
       clear o3 b3 H2 hk2 hs2 hlt2))
  exact copyP_end H3.out (fun h1 h0 b g hb hg => by have := B1.out b h0 hb; have := B2.out g h1 hg; omega) (fun h1 h0 b g hb hg => by have := B3.out b h0 hb; have := B2.out g h1 hg; omega) rfl rfl rfl


set_option maxHeartbeats 400000 in
set_option maxRecDepth 100000 in
/-- The document's Erase refuses. -/
theorem rera_no (c : Ce) (p : Pl) (d : D2) (w : World) (hk : (c.kind != 3) = true) :
    Calls Tryz.prog 76 #[ceV c p, dv d] w fun e w' => e = .returned (.tuple #[ceV ce0 pl0, .int .i64 1000]) ∧ Below w.heap.size w w' := by
  have H0 : Hid (Set3 w w.heap.size c p d.1 d.2 (((w.alloc (.cells (ceL c p).toArray 30)).alloc (.cells #[.int .i64 d.1, .int .i64 d.2] 32)).alloc (.cells (ceL ce0 pl0).toArray 30))) := set3_new _ _ _ _ _ _ _ _
  obtain ⟨h, hh⟩ : ∃ h, w.heap.size = h := ⟨_, rfl⟩
  rw [hh] at H0 ⊢
  go_enter Tryz.func76, Tryz.ntmps76
  go_wp2_with fail
  exact bodyPost_ret (ret_cell2 rfl rfl rfl H0.out.2.2.2) rfl ⟨rfl, H0.out.1⟩

set_option maxHeartbeats 400000 in
set_option maxRecDepth 100000 in
/-- The document's Erase finds none. -/
theorem rera_range (c : Ce) (p : Pl) (d : D2) (w : World) (hr : CRow w c p) (hf : Fit c) (hk : (c.kind != 3) = false) (ha : atD c.elems d = none) :
    Calls Tryz.prog 76 #[ceV c p, dv d] w fun e w' => e = .returned (.tuple #[ceV ce0 pl0, .int .i64 1001]) ∧ Below w.heap.size w w' := by
  have H0 : Hid (Set3 w w.heap.size c p d.1 d.2 (((w.alloc (.cells (ceL c p).toArray 30)).alloc (.cells #[.int .i64 d.1, .int .i64 d.2] 32)).alloc (.cells (ceL ce0 pl0).toArray 30))) := set3_new _ _ _ _ _ _ _ _
  obtain ⟨h, hh⟩ : ∃ h, w.heap.size = h := ⟨_, rfl⟩
  rw [hh] at H0 ⊢
  have C := rplace_any c p d _ (hr.later (hh.symm ▸ H0.out.1)) hf
  rw [numD_none ha] at C
  clear hr hf ha
  go_enter Tryz.func76, Tryz.ntmps76
  go_wp2_with fail
  refine C.mono ?_
  rintro e w1 ⟨rfl, b1⟩
  have H1 : Hid (Set3 w h c p d.1 d.2 w1) := H0.out.later b1
  clear b1 H0 C
  obtain ⟨s0, s1, s2, s3, s4, s5, s6, s7, s8, s9⟩ := H1.out.2.2.2.ten
  obtain ⟨z0, z1, z2, z3, z4, z5, z6, z7, z8, z9⟩ := H1.out.2.2.2.tenf
  go_wp2_with fail
  exact rend_no (a := h + 2) (r := 4) H1.out.1 H1.out.2.2.2 (by omega) rfl rfl rfl rfl

/-- Lists in memory of their own, one cell written: the elements' row marked. -/
theorem fown_mark {B g : Nat} {w : World} {l : List L5} {k : Nat} (h : FOwn B w (some ⟨g, 0, none⟩) (flatL l)) (hk : k < l.length) :
    FOwn B ((w.setCell ⟨g, k * 5 + 4, none⟩ (.bool true)).setCell ⟨g, k * 5 + 3, none⟩ (.string ByteArray.empty)) (some ⟨g, 0, none⟩) (flatL (l.modify k markX)) := fun _ => by
  obtain ⟨b, h1, h4, h2, h3⟩ := h (by rw [flatL_len]; omega)
  simp only [Option.some.injEq, Addr.mk.injEq, and_true] at h1
  subst h1
  refine ⟨g, rfl, h4, by simpa using h2, ?_⟩
  have H : Has w g (flatL l) := ⟨h2, h3⟩
  have := (H.put (k * 5 + 4) (.bool true)).put (k * 5 + 3) (.string ByteArray.empty)
  rw [List.set_comm _ _ (by omega : k * 5 + 4 ≠ k * 5 + 3), ← flatL_mark hk] at this
  exact this.2

/-- What the copy leaves, once it is stored over the cell. -/
structure CpE (w : World) (h g : Nat) (c : Ce) (q : Pl) (W : World) : Prop where
  b : Below h w W
  c0 : Has W h (ceL c q)
  a : Has W (h + 2) (ceL ce0 pl0)
  ow : COwn (h + 3) W c q
  a1 : ApartF q.eo (flatE c.ents) q.lo (flatL c.elems)
  a2 : ApartF q.so (flatI c.seen) q.lo (flatL c.elems)
  bk : q.lo = some ⟨g, 0, none⟩
  hg : h + 3 ≤ g
theorem fown_two {B g : Nat} {w : World} {ao : Option Addr} {xs : List Value} (F : FOwn B w ao xs) (hk : ∀ b, ao = some ⟨b, 0, none⟩ → 0 < xs.length → b ≠ g) (o1 o2 : Nat) (v1 v2 : Value) : FOwn B ((w.setCell ⟨g, o1, none⟩ v1).setCell ⟨g, o2, none⟩ v2) ao xs := fun h0 =>
  fown_apart (fown_apart F (fun b hb => hk b hb h0) v1) (fun b hb => hk b hb h0) v2 h0
theorem CpE.mark {w W : World} {h g : Nat} {c : Ce} {q : Pl} (F : CpE w h g c q W) {k : Nat} (hk : k < c.elems.length) :
    AftE w h h c q (c.elems.modify k markX) ((W.setCell ⟨g, k * 5 + 4, none⟩ (.bool true)).setCell ⟨g, k * 5 + 3, none⟩ (.string ByteArray.empty)) := by
  have hg := F.hg
  have h0 : 0 < (flatL c.elems).length := by rw [flatL_len]; omega
  refine ⟨(F.b.setCell (p := ⟨g, k * 5 + 4, none⟩) (by show h ≤ g; omega) _).setCell (p := ⟨g, k * 5 + 3, none⟩) (by show h ≤ g; omega) _, (F.a.other (by omega) _ _).other (by omega) _ _, ?_, ?_, ?_, ?_⟩
  · have := (F.c0.other (k := g) (by omega) (k * 5 + 4) (.bool true)).other (k := g) (by omega) (k * 5 + 3) (.string ByteArray.empty)
    show Has _ h [_, _, _, _, _, _, _, _, .slice q.lo (c.elems.modify k markX).length q.lc, _]
    rw [List.length_modify]
    exact this
  · exact fown_two F.ow.1 (fun b hb h1 => F.a1 h0 h1 b g hb F.bk) _ _ _ _
  · have := F.ow.2.1
    rw [F.bk] at this
    have := fown_mark this hk
    rw [← F.bk] at this
    exact this
  · exact fown_two F.ow.2.2 (fun b hb h1 => F.a2 h0 h1 b g hb F.bk) _ _ _ _

set_option maxHeartbeats 2000000 in
set_option maxRecDepth 100000 in
/-- The document's Erase takes it. -/
theorem rera_yes (c : Ce) (p : Pl) (d : D2) (k : Nat) (w : World) (hr : CRow w c p) (hf : Fit c) (hk : (c.kind != 3) = false) (ha : atD c.elems d = some k) :
    Calls Tryz.prog 76 #[ceV c p, dv d] w fun e w' => ∃ q, e = .returned (.tuple #[ceV (cL c (c.elems.modify k markX)) q, .int .i64 0]) ∧ COwn w.heap.size w' (cL c (c.elems.modify k markX)) q ∧ Below w.heap.size w w' := by
  have H0 : Hid (Set3 w w.heap.size c p d.1 d.2 (((w.alloc (.cells (ceL c p).toArray 30)).alloc (.cells #[.int .i64 d.1, .int .i64 d.2] 32)).alloc (.cells (ceL ce0 pl0).toArray 30))) := set3_new _ _ _ _ _ _ _ _
  have hlen : c.elems.length * 48 ≤ 140737488351232 := hf.2.1
  have hkl := atD_lt ha
  obtain ⟨h, hh⟩ : ∃ h, w.heap.size = h := ⟨_, rfl⟩
  rw [hh] at H0 ⊢
  have C := rplace_any c p d _ (hr.later (hh.symm ▸ H0.out.1)) hf
  rw [numD_some ha] at C
  have HR : Hid (CRow w c p ∧ Fit c ∧ w.heap.size = h) := ⟨hr, hf, hh⟩
  obtain ⟨L, hL⟩ : ∃ L, c.elems.modify k markX = L := ⟨_, rfl⟩
  rw [hL]
  have HL : Hid (c.elems.modify k markX = L ∧ L.length = c.elems.length) := ⟨hL, hL ▸ List.length_modify ..⟩
  clear hr hf ha hL
  go_enter Tryz.func76, Tryz.ntmps76
  go_wp2_with fail
  refine C.mono ?_
  rintro e w2 ⟨rfl, b1⟩
  have H2 : Hid (Set3 w h c p d.1 d.2 w2) := H0.out.later b1
  clear b1 H0 C
  obtain ⟨B, hB⟩ : ∃ B, w2.heap.size = B := ⟨_, rfl⟩
  have hB3 : h + 3 ≤ B := by have := H2.out.size; omega
  obtain ⟨t0, t1, t2, t3, t4, t5, t6, t7, t8, t9⟩ := H2.out.2.1.ten
  have hkn : decide ((k : Int) < 0) = false := by simp
  go_wp2_with fail
  refine (rcopyP_any c p _ (HR.out.1.later (HR.out.2.2.symm ▸ H2.out.1)) HR.out.2.1).mono ?_
  rintro e w3 ⟨q, rfl, P3, b3⟩
  rw [hB] at P3 b3
  obtain ⟨g, hg⟩ : ∃ g, q.lo = some ⟨g, 0, none⟩ := by
    obtain ⟨b, e, _⟩ := P3.1.2.1 (by rw [flatL_len]; omega)
    exact ⟨b, e⟩
  have hgb : B ≤ g := (fown_lt P3.1.2.1 (by rw [flatL_len]; omega) hg).1
  have HF : Hid (CpE w h g c q (put10 w3 h (.int .i64 c.kind) (.bool c.set) (.int .i64 c.time) (.int .i64 c.node) (.string c.val) (.int .i64 c.re) (.int .i64 c.im) (.slice q.eo c.ents.length q.ec) (.slice q.lo c.elems.length q.lc) (.slice q.so c.seen.length q.sc))) := by
    have S := H2.out.later (hB.symm ▸ b3)
    refine ⟨below_put10 S.1 (Nat.le_refl _) _ _ _ _ _ _ _ _ _ _, S.2.1.put10 _ _ _ _ _ _ _ _ _ _, ?_, (P3.1.put10 (by omega) _ _ _ _ _ _ _ _ _ _).mono hB3, P3.2.1, P3.2.2, hg, by omega⟩
    repeat apply Has.other (hk := by omega)
    exact S.2.2.2
  have H3 : Hid (Set3 w h c p d.1 d.2 w3) := H2.out.later (hB.symm ▸ b3)
  clear P3 b3 t0 t1 t2 t3 t4 t5 t6 t7 t8 t9 H2 hg
  obtain ⟨t0, t1, t2, t3, t4, t5, t6, t7, t8, t9⟩ := H3.out.2.1.ten
  obtain ⟨f0, f1, f2, f3, f4, f5, f6, f7, f8, f9⟩ := H3.out.2.1.tenf
  clear H3
  go_upto_region 7 with fail
  clear t0 t1 t2 t3 t4 t5 t6 t7 t8 t9 f0 f1 f2 f3 f4 f5 f6 f7 f8 f9
  dsimp only [put10] at HF
  generalize hW : World.setCell _ (⟨h, 9, none⟩ : Addr) _ = w5 at HF ⊢
  clear hW hB
  have t8 := HF.out.c0.at 8 rfl
  rw [HF.out.bk] at t8
  have ow := HF.out.ow.2.1
  rw [HF.out.bk] at ow
  obtain ⟨g', eg, _, _, hc⟩ := ow (by rw [flatL_len]; omega)
  simp only [Option.some.injEq, Addr.mk.injEq, and_true] at eg
  subst eg
  obtain ⟨x, hx⟩ : ∃ x, c.elems[k]? = some x := ⟨_, List.getElem?_eq_getElem hkl⟩
  obtain ⟨_, _, _, g3, g4⟩ := flatL_at c.elems k hx
  have c3 := (hc _ _ g3).1
  have c4 := (hc _ _ g4).1
  have f3 := (hc _ _ g3).2
  have f4 := (hc _ _ g4).2
  have hkl2 : (k : Int) < (c.elems.length : Int) := by omega
  have hgk : g ≠ h := by omega
  have HM : Hid (AftE w h h c q L ((w5.setCell ⟨g, k * 5 + 4, none⟩ (.bool true)).setCell ⟨g, k * 5 + 3, none⟩ (.string ⟨#[]⟩))) := HL.out.1 ▸ HF.out.mark hkl
  clear ow hx g3 g4 hc
  go_upto_region 9 with fail
  generalize hW : (w5.setCell ⟨g, k * 5 + 4, none⟩ (.bool true)).setCell ⟨g, k * 5 + 3, none⟩ (.string ⟨#[]⟩) = w8 at HM ⊢
  clear hW HF t8 c3 c4 f3 f4
  obtain ⟨t0, t1, t2, t3, t4, t5, t6, t7, t8, t9⟩ := HM.out.2.2.1.ten
  obtain ⟨s0, s1, s2, s3, s4, s5, s6, s7, s8, s9⟩ := HM.out.2.1.ten
  obtain ⟨z0, z1, z2, z3, z4, z5, z6, z7, z8, z9⟩ := HM.out.2.1.tenf
  go_wp2_with fail
  exact rend (d := cL c L) (a := h + 2) (B := h + 3) (r := 4) HM.out.1 HM.out.2.1 HM.out.2.2.2 (by omega) (by omega) rfl rfl rfl rfl

end Go.Proofs.YtgkddimijmnpcaaGreatDoor

