/-
  Package rga's Erase and Compact, by contracts.
-/
import Derived.Test.YtghlegidapmpmaaFind10
import Derived.Test.YtghlegidapmpmaaFresh10
import Derived.Test.YtghlegidapmpmaaDel10
import Derived.Test.YtghlegidapmpmaaCeGen
import Derived.Deep.Cut
import Derived.Deep.CutRange
namespace Go.Proofs.Ytghlegidapmpmaa
open Go.RowKit Go.Shelf
set_option linter.unusedVariables false
set_option linter.unusedSimpArgs false

/-- A cell with other elements. -/
abbrev cL (c : Ce) (l : List L5) : Ce := ⟨c.kind, c.set, c.time, c.node, c.val, c.re, c.im, c.ents, l, c.seen⟩

theorem flatL_mark : ∀ {l : List L5} {k : Nat}, k < l.length → flatL (l.modify k markX) = ((flatL l).set (k * 5 + 3) (.string ByteArray.empty)).set (k * 5 + 4) (.bool true)
  | [], k, h => by simp at h
  | a :: l, 0, _ => by simp [flatL, l5, markX]
  | a :: l, k + 1, h => by
    have := flatL_mark (l := l) (k := k) (by simpa using h)
    have e : ∀ j, (k + 1) * 5 + j = k * 5 + j + 1 + 1 + 1 + 1 + 1 := fun j => by omega
    simp only [flatL, l5, List.flatMap_cons, List.modify_succ_cons, e, List.cons_append, List.nil_append, List.set_cons_succ] at this ⊢
    rw [this]

/-- The end of a call that is taken. -/
theorem rend {fn : Func} {act : Act} {w W : World} {h a B r : Nat} {d : Ce} {q : Pl} (hB : Below h w W) (HA : Has W a (ceL ce0 pl0)) (HO : COwn B W d q) (ha : h ≤ a) (haB : a < B) (hr : fn.results = #[.cell r 31, .tmp (r + 1)]) (h6 : act.tmps[r]? = some (.pointer (some ⟨a, 0, none⟩))) (h7 : act.tmps[r + 1]? = some (.int .i64 0)) (hd : act.defers = []) :
    bodyPost Try.prog fn (fun e w' => ∃ q, e = .returned (.tuple #[ceV d q, .int .i64 0]) ∧ COwn h w' d q ∧ Below h w w') Exit.ret act (put10 W a (.int .i64 d.kind) (.bool d.set) (.int .i64 d.time) (.int .i64 d.node) (.string d.val) (.int .i64 d.re) (.int .i64 d.im) (.slice q.eo d.ents.length q.ec) (.slice q.lo d.elems.length q.lc) (.slice q.so d.seen.length q.sc)) :=
  bodyPost_ret (ret_cell2 hr h6 h7 (HA.put10 _ _ _ _ _ _ _ _ _ _)) hd ⟨q, rfl, (HO.put10 haB _ _ _ _ _ _ _ _ _ _).mono (by omega), below_put10 hB ha _ _ _ _ _ _ _ _ _ _⟩
/-- The end of a call that is not taken. -/
theorem rend_no {fn : Func} {act : Act} {w W : World} {h a r : Nat} {z : Int} (hB : Below h w W) (HA : Has W a (ceL ce0 pl0)) (ha : h ≤ a) (hr : fn.results = #[.cell r 31, .tmp (r + 1)]) (h6 : act.tmps[r]? = some (.pointer (some ⟨a, 0, none⟩))) (h7 : act.tmps[r + 1]? = some (.int .i64 z)) (hd : act.defers = []) :
    bodyPost Try.prog fn (fun e w' => e = .returned (.tuple #[ceV ce0 pl0, .int .i64 z]) ∧ Below h w w') Exit.ret act (put10 W a (.int .i64 0) (.bool false) (.int .i64 0) (.int .i64 0) (.string ByteArray.empty) (.int .i64 0) (.int .i64 0) (.slice none 0 0) (.slice none 0 0) (.slice none 0 0)) :=
  bodyPost_ret (ret_cell2 hr h6 h7 (HA.put10 _ _ _ _ _ _ _ _ _ _)) hd ⟨rfl, below_put10 hB ha _ _ _ _ _ _ _ _ _ _⟩

set_option maxHeartbeats 400000 in
set_option maxRecDepth 100000 in
/-- Erase refuses. -/
theorem era_no (c : Ce) (p : Pl) (d : D2) (w : World) (hk : (c.kind != 3) = true) :
    Calls Try.prog 9 #[ceV c p, dv d] w fun e w' => e = .returned (.tuple #[ceV ce0 pl0, .int .i64 1000]) ∧ Below w.heap.size w w' := by
  have H0 : Hid (Set3 w w.heap.size c p d.1 d.2 (((w.alloc (.cells (ceL c p).toArray 31)).alloc (.cells #[.int .i64 d.1, .int .i64 d.2] 33)).alloc (.cells (ceL ce0 pl0).toArray 31))) := set3_new _ _ _ _ _ _ _ _
  obtain ⟨h, hh⟩ : ∃ h, w.heap.size = h := ⟨_, rfl⟩
  rw [hh] at H0 ⊢
  go_enter Try.func9, Try.ntmps9
  go_wp2_with fail
  exact bodyPost_ret (ret_cell2 rfl rfl rfl H0.out.2.2.2) rfl ⟨rfl, H0.out.1⟩

set_option maxHeartbeats 400000 in
set_option maxRecDepth 100000 in
/-- Erase finds none. -/
theorem era_range (c : Ce) (p : Pl) (d : D2) (w : World) (hr : CRow w c p) (hf : Fit c) (hk : (c.kind != 3) = false) (ha : atD c.elems d = none) :
    Calls Try.prog 9 #[ceV c p, dv d] w fun e w' => e = .returned (.tuple #[ceV ce0 pl0, .int .i64 1001]) ∧ Below w.heap.size w w' := by
  have H0 : Hid (Set3 w w.heap.size c p d.1 d.2 (((w.alloc (.cells (ceL c p).toArray 31)).alloc (.cells #[.int .i64 d.1, .int .i64 d.2] 33)).alloc (.cells (ceL ce0 pl0).toArray 31))) := set3_new _ _ _ _ _ _ _ _
  have hlen : c.elems.length ≤ maxLen := by have := hf.2.1; unfold maxLen; omega
  obtain ⟨h, hh⟩ : ∃ h, w.heap.size = h := ⟨_, rfl⟩
  rw [hh] at H0 ⊢
  have C := indexOf_any d p.lo p.lc c.elems _ (hr.later (hh.symm ▸ H0.out.1)).2.1 hlen
  rw [numD_none ha] at C
  clear hr hf ha hlen
  go_enter Try.func9, Try.ntmps9
  go_wp2_with fail
  refine C.mono ?_
  rintro e w1 ⟨rfl, b1⟩
  have H1 : Hid (Set3 w h c p d.1 d.2 w1) := H0.out.later b1
  clear b1 H0 C
  obtain ⟨s0, s1, s2, s3, s4, s5, s6, s7, s8, s9⟩ := H1.out.2.2.2.ten
  obtain ⟨z0, z1, z2, z3, z4, z5, z6, z7, z8, z9⟩ := H1.out.2.2.2.tenf
  go_wp2_with fail
  exact rend_no (a := h + 2) (r := 4) H1.out.1 H1.out.2.2.2 (by omega) rfl rfl rfl rfl

/-- The row of the elements once that one is marked, in either order of the stores. -/
theorem own_mark {B g cp n : Nat} {w : World} {l : List L5} {k : Nat} (h : w.ownsRow B 38 5 (.slice (some ⟨g, 0, none⟩) n cp) n (flatL l)) (hk : k < l.length) :
    ((w.setCell ⟨g, k * 5 + 3, none⟩ (.string ByteArray.empty)).setCell ⟨g, k * 5 + 4, none⟩ (.bool true)).ownsRow B 38 5 (.slice (some ⟨g, 0, none⟩) n cp) n (flatL (l.modify k markX)) ∧
    ((w.setCell ⟨g, k * 5 + 4, none⟩ (.bool true)).setCell ⟨g, k * 5 + 3, none⟩ (.string ByteArray.empty)).ownsRow B 38 5 (.slice (some ⟨g, 0, none⟩) n cp) n (flatL (l.modify k markX)) := by
  rw [flatL_mark hk]
  refine ⟨((h.stored (k * 5 + 3) _).1.stored (k * 5 + 4) _).1, ?_⟩
  rw [List.set_comm _ _ (by omega : k * 5 + 3 ≠ k * 5 + 4)]
  exact ((h.stored (k * 5 + 4) _).1.stored (k * 5 + 3) _).1

/-- What Erase has made ahead of the stores: the copy in block k7. -/
structure FixE (w w3 w5 : World) (h k7 g B : Nat) (c : Ce) (p q : Pl) (d : D2) : Prop where
  s3 : Set3 w h c p d.1 d.2 w5
  h7 : Has w5 k7 (ceL c q)
  pt : PartsL B w5 c q
  p3 : PartsL B w3 c q
  sz : w3.heap.size = k7
  bk : q.lo = some ⟨g, 0, none⟩
  gB : B ≤ g ∧ g < k7
  h3 : h + 3 ≤ B

/-- What the stores leave. -/
def AftE (w : World) (h k7 : Nat) (c : Ce) (q : Pl) (L : List L5) (W : World) : Prop := Below h w W ∧ Has W (h + 2) (ceL ce0 pl0) ∧ Has W k7 (ceL (cL c L) q) ∧ COwn (h + 3) W (cL c L) q

theorem aftE_of {w w3 w5 : World} {h k7 g B : Nat} {c : Ce} {p q : Pl} {d : D2} (F : FixE w w3 w5 h k7 g B c p q d) {k : Nat} (hk : k < c.elems.length) :
    AftE w h k7 c q (c.elems.modify k markX) ((w5.drew.setCell ⟨g, k * 5 + 3, none⟩ (.string ByteArray.empty)).setCell ⟨g, k * 5 + 4, none⟩ (.bool true)) ∧
    AftE w h k7 c q (c.elems.modify k markX) ((w5.drew.setCell ⟨g, k * 5 + 4, none⟩ (.bool true)).setCell ⟨g, k * 5 + 3, none⟩ (.string ByteArray.empty)) := by
  have hgB := F.gB
  have h3 := F.h3
  have hd : Below w5.heap.size w5 w5.drew := (Below.refl _ _).drew
  have S := F.s3.later hd
  have H7 := F.h7.later hd
  have P := F.pt.later hd
  have hlo := P.1
  rw [F.bk] at hlo
  have hrow : (Value.slice q.lo c.elems.length q.lc).ownBlock = some g := by rw [F.bk]; rfl
  have own := own_mark hlo hk
  have hgb : ∀ (o1 o2 : Nat) (v1 v2 : Value), w5.drew.grownBy ((w5.drew.setCell ⟨g, o1, none⟩ v1).setCell ⟨g, o2, none⟩ v2) (some g) := fun o1 o2 v1 v2 => gb_set (gb_set (gb_refl _ _) _ _) _ _
  have key : ∀ (o1 o2 : Nat) (v1 v2 : Value), ((w5.drew.setCell ⟨g, o1, none⟩ v1).setCell ⟨g, o2, none⟩ v2).ownsRow B 38 5 (.slice (some ⟨g, 0, none⟩) c.elems.length q.lc) c.elems.length (flatL (c.elems.modify k markX)) → AftE w h k7 c q (c.elems.modify k markX) ((w5.drew.setCell ⟨g, o1, none⟩ v1).setCell ⟨g, o2, none⟩ v2) := fun o1 o2 v1 v2 ho => by
    have G := hgb o1 o2 v1 v2
    refine ⟨(S.1.setCell (p := ⟨g, o1, none⟩) (by show h ≤ g; omega) v1).setCell (p := ⟨g, o2, none⟩) (by show h ≤ g; omega) v2, (S.2.2.2.other (by omega) _ _).other (by omega) _ _, ?_, ?_, ?_, ?_⟩
    · have := (H7.other (k := g) (by omega) o1 v1).other (k := g) (by omega) o2 v2
      show Has _ k7 [_, _, _, _, _, _, _, _, .slice q.lo (c.elems.modify k markX).length q.lc, _]
      rw [List.length_modify]
      exact this
    · exact (gb_apart G (hrow ▸ P.2.2.2.1) P.2.1).mono (by omega)
    · have := own_row ho
      rw [← F.bk] at this
      exact this.mono (by omega)
    · exact (gb_apart G (hrow ▸ P.2.2.2.2) P.2.2.1).mono (by omega)
  exact ⟨key _ _ _ _ own.1, key _ _ _ _ own.2⟩

set_option maxHeartbeats 2000000 in
set_option maxRecDepth 100000 in
/-- Erase takes it. -/
theorem era_yes (c : Ce) (p : Pl) (d : D2) (k : Nat) (w : World) (hr : CRow w c p) (hf : Fit c) (hk : (c.kind != 3) = false) (ha : atD c.elems d = some k) :
    Calls Try.prog 9 #[ceV c p, dv d] w fun e w' => ∃ q, e = .returned (.tuple #[ceV (cL c (c.elems.modify k markX)) q, .int .i64 0]) ∧ COwn w.heap.size w' (cL c (c.elems.modify k markX)) q ∧ Below w.heap.size w w' := by
  have H0 : Hid (Set3 w w.heap.size c p d.1 d.2 (((w.alloc (.cells (ceL c p).toArray 31)).alloc (.cells #[.int .i64 d.1, .int .i64 d.2] 33)).alloc (.cells (ceL ce0 pl0).toArray 31))) := set3_new _ _ _ _ _ _ _ _
  have hlen : c.elems.length ≤ maxLen := by have := hf.2.1; unfold maxLen; omega
  have hkl := atD_lt ha
  obtain ⟨h, hh⟩ : ∃ h, w.heap.size = h := ⟨_, rfl⟩
  rw [hh] at H0 ⊢
  have C := indexOf_any d p.lo p.lc c.elems _ (hr.later (hh.symm ▸ H0.out.1)).2.1 hlen
  rw [numD_some ha] at C
  have HR : Hid (CRow w c p ∧ Fit c ∧ w.heap.size = h) := ⟨hr, hf, hh⟩
  unfold maxLen at hlen
  obtain ⟨L, hL⟩ : ∃ L, c.elems.modify k markX = L := ⟨_, rfl⟩
  rw [hL]
  have HL : Hid (c.elems.modify k markX = L ∧ L.length = c.elems.length) := ⟨hL, hL ▸ List.length_modify ..⟩
  clear hr hf ha hL
  go_enter Try.func9, Try.ntmps9
  go_wp2_with fail
  refine C.mono ?_
  rintro e w2 ⟨rfl, b1⟩
  have H2 : Hid (Set3 w h c p d.1 d.2 w2) := H0.out.later b1
  clear b1 H0 C
  obtain ⟨B, hB⟩ : ∃ B, w2.heap.size = B := ⟨_, rfl⟩
  have hB3 : h + 3 ≤ B := by have := H2.out.size; omega
  obtain ⟨t0, t1, t2, t3, t4, t5, t6, t7, t8, t9⟩ := H2.out.2.1.ten
  have hkn : decide ((k : Int) < 0) = false := by simp
  go_wp2_with fail
  refine (fcellL_any c p _ (HR.out.1.later (HR.out.2.2.symm ▸ H2.out.1)) HR.out.2.1).mono ?_
  rintro e w3 ⟨q, rfl, P3, b3⟩
  rw [hB] at P3 b3
  obtain ⟨k7, hk7⟩ : ∃ k, w3.heap.size = k := ⟨_, rfl⟩
  have hal : Below w3.heap.size w3 (w3.alloc (.cells (ceL c q).toArray 31)) := (Below.refl _ _).alloc (Nat.le_refl _) _
  have hk7B : B ≤ k7 := by have := b3.size; omega
  obtain ⟨g, hg⟩ : ∃ g, q.lo = some ⟨g, 0, none⟩ := by
    obtain ⟨b, e, _⟩ := own_row P3.1 (by rw [flatL_len]; omega)
    exact ⟨b, e⟩
  have hgb : B ≤ g ∧ g < k7 := by
    have := P3.1.lt g (by rw [hg]; rfl)
    omega
  have HF : Hid (FixE w w3 (w3.alloc (.cells (ceL c q).toArray 31)) h k7 g B c p q d) := ⟨(H2.out.later (hB.symm ▸ b3)).later hal, hk7 ▸ has_new w3 (ceL c q) _, P3.later hal, P3, hk7, hg, hgb, hB3⟩
  clear P3 b3 hal t0 t1 t2 t3 t4 t5 t6 t7 t8 t9 H2 hg
  go_upto_region 7 with fail
  generalize hW : w3.alloc (.cells (ceL c q).toArray 31) = w5 at HF ⊢
  clear hW hB hk7
  have t8 := HF.out.h7.at 8 rfl
  rw [HF.out.bk] at t8
  have ow := HF.out.pt.1
  rw [HF.out.bk] at ow
  obtain ⟨x, hx⟩ : ∃ x, c.elems[k]? = some x := ⟨_, List.getElem?_eq_getElem hkl⟩
  obtain ⟨_, _, _, g3, g4⟩ := flatL_at c.elems k hx
  have c3 := (ow.cellAt (k * 5 + 3) (by omega)).trans g3
  have c4 := (ow.cellAt (k * 5 + 4) (by omega)).trans g4
  have f3 := ow.frozenAt (k * 5 + 3)
  have f4 := ow.frozenAt (k * 5 + 4)
  have hkl2 : (k : Int) < (c.elems.length : Int) := by omega
  have hgk : g ≠ k7 := by omega
  clear ow hx g3 g4
  go_cut [7] from 8 to 31 (fun r wx => r = .pointer (some ⟨k7, 0, none⟩) ∧ Hid (AftE w h k7 c q L wx))
  case first =>
    go_region
    all_goals
      (go_wp2
       go_meet
       case rel => exact ⟨rfl, HL.out.1 ▸ (by first | exact (aftE_of HF.out hkl).1 | exact (aftE_of HF.out hkl).2)⟩)
  case rest =>
    obtain ⟨w8, rfl⟩ : ∃ z, z = wc := ⟨_, rfl⟩
    obtain ⟨rfl, HQ⟩ := hcut
    clear HF t8 c3 c4 f3 f4
    obtain ⟨t0, t1, t2, t3, t4, t5, t6, t7, t8, t9⟩ := HQ.out.2.2.1.ten
    obtain ⟨s0, s1, s2, s3, s4, s5, s6, s7, s8, s9⟩ := HQ.out.2.1.ten
    obtain ⟨z0, z1, z2, z3, z4, z5, z6, z7, z8, z9⟩ := HQ.out.2.1.tenf
    go_wp2_with fail
    exact rend (d := cL c L) (a := h + 2) (B := h + 3) (r := 4) HQ.out.1 HQ.out.2.1 HQ.out.2.2.2 (by omega) (by omega) rfl rfl rfl rfl

/-! Compact. -/

set_option maxHeartbeats 400000 in
set_option maxRecDepth 100000 in
/-- Compact refuses. -/
theorem com_no (c : Ce) (p : Pl) (w : World) (hk : (c.kind != 3) = true) :
    Calls Try.prog 10 #[ceV c p] w fun e w' => e = .returned (.tuple #[ceV ce0 pl0, .int .i64 1000]) ∧ Below w.heap.size w w' := by
  have H0 : Hid (Copy0 w w.heap.size c p (((w.alloc (.cells (ceL c p).toArray 31)).alloc (.cells (ceL ce0 pl0).toArray 31)))) := copy0_new w c p 31
  obtain ⟨h, hh⟩ : ∃ h, w.heap.size = h := ⟨_, rfl⟩
  rw [hh] at H0 ⊢
  go_enter Try.func10, Try.ntmps10
  go_wp2_with fail
  exact bodyPost_ret (ret_cell2 rfl rfl rfl H0.out.2.2) rfl ⟨rfl, H0.out.1⟩

/-- The closure of Compact: is it gone? -/
theorem isGone_any (W : World) (x : L5) :
    Calls Try.prog 22 #[lv x] W fun e w' => e = .returned (.bool x.gone) ∧ Below W.heap.size W w' := by
  go_enter Try.func22, Try.ntmps22
  go_wp2
  go_ret
  exact ⟨rfl, (Below.refl _ _).alloc (Nat.le_refl _) _⟩
theorem enters_isGone : ∀ args w, (callFunc 22 args).run Try.prog w = .ok (.enter 22 args) w := enters_of Try.func22 (by kernel_rfl) rfl

set_option maxHeartbeats 2000000 in
set_option maxRecDepth 100000 in
/-- Compact takes it. -/
theorem com_yes (c : Ce) (p : Pl) (w : World) (hr : CRow w c p) (hf : Fit c) (hk : (c.kind != 3) = false) :
    Calls Try.prog 10 #[ceV c p] w fun e w' => ∃ q, e = .returned (.tuple #[ceV (cL c (liveL c.elems)) q, .int .i64 0]) ∧ COwn w.heap.size w' (cL c (liveL c.elems)) q ∧ Below w.heap.size w w' := by
  have H0 : Hid (Copy0 w w.heap.size c p (((w.alloc (.cells (ceL c p).toArray 31)).alloc (.cells (ceL ce0 pl0).toArray 31)))) := copy0_new w c p 31
  obtain ⟨h, hh⟩ : ∃ h, w.heap.size = h := ⟨_, rfl⟩
  rw [hh] at H0 ⊢
  have HR : Hid (CRow w c p ∧ Fit c ∧ w.heap.size = h) := ⟨hr, hf, hh⟩
  obtain ⟨L, hL⟩ : ∃ L, liveL c.elems = L := ⟨_, rfl⟩
  rw [hL]
  have HL : Hid (liveL c.elems = L) := hL
  clear hr hf hL
  go_enter Try.func10, Try.ntmps10
  obtain ⟨B, hB⟩ : ∃ B, B = h + 2 := ⟨_, rfl⟩
  go_wp2_with fail
  refine (fcellL_any c p _ (HR.out.1.later (HR.out.2.2.symm ▸ H0.out.1)) HR.out.2.1).mono ?_
  rintro e w3 ⟨q, rfl, P3, b3⟩
  obtain ⟨k7, hk7⟩ : ∃ k, w3.heap.size = k := ⟨_, rfl⟩
  have hal : Below w3.heap.size w3 (w3.alloc (.cells (ceL c q).toArray 31)) := (Below.refl _ _).alloc (Nat.le_refl _) _
  have hs0 := H0.out.size
  have hk7B : B ≤ k7 := by
    have : h + 2 ≤ w3.heap.size := Nat.le_trans H0.out.size b3.size
    omega
  have P3' := P3.mono (C := B) (by rw [hB]; exact H0.out.size)
  have H4 : Hid (Copy0 w h c p (w3.alloc (.cells (ceL c q).toArray 31)) ∧ Has (w3.alloc (.cells (ceL c q).toArray 31)) k7 (ceL c q) ∧ PartsL B (w3.alloc (.cells (ceL c q).toArray 31)) c q ∧ PartsL B w3 c q ∧ w3.heap.size = k7 ∧ (∀ g, (Value.slice q.lo c.elems.length q.lc).ownBlock = some g → g < k7 ∧ B ≤ g)) :=
    ⟨(H0.out.later b3).later hal, hk7 ▸ has_new w3 (ceL c q) _, P3'.later hal, P3', hk7, fun g hg => ⟨hk7 ▸ (P3'.1.lt g hg).2, (P3'.1.lt g hg).1⟩⟩
  have hsz : (w3.alloc (.cells (ceL c q).toArray 31)).heap.size = k7 + 1 := by simp [hk7]
  clear P3 P3' b3 hal H0 hs0
  go_wp2_with fail
  refine (deleteL_any (fun x => x.gone) 22 #[] enters_isGone B B q.lo q.lc c.elems _ H4.out.2.2.1.1 (Nat.le_refl _) (by omega) (fun W x _ _ => isGone_any W x)).mono ?_
  rintro e w5 ⟨rfl, o5, g5⟩
  have e0 : (c.elems.filter fun x => !x.gone) = L := HL.out
  rw [e0] at o5 ⊢
  clear e0
  have hn7 : ∀ b, q.lo = some ⟨b, 0, none⟩ → b ≠ k7 := fun b hb e => by
    have := (H4.out.2.2.2.2.2 b (by rw [hb]; rfl)).1
    omega
  have H5 : Hid (Has w5 k7 (ceL c q) ∧ Below h w w5 ∧ Has w5 (h + 1) (ceL ce0 pl0) ∧ FOwn B w5 q.lo (flatL L) ∧ FOwn B w5 q.eo (flatE c.ents) ∧ FOwn B w5 q.so (flatI c.seen)) := by
    have hn : ∀ g, g < B ∨ g = k7 → some g ≠ (Value.slice q.lo c.elems.length q.lc).ownBlock := fun g hg e => by
      have := H4.out.2.2.2.2.2 g e.symm
      omega
    refine ⟨gb_has g5 H4.out.2.1 (hn _ (Or.inr rfl)), H4.out.1.1.trans (gb_to g5 (by omega) fun k hk => by have := H4.out.2.2.2.2.2 k hk; omega), gb_has g5 H4.out.1.2.2 (hn _ (Or.inl (by omega))), o5, gb_apart g5 H4.out.2.2.1.2.2.2.1 H4.out.2.2.1.2.1, gb_apart g5 H4.out.2.2.1.2.2.2.2 H4.out.2.2.1.2.2.1⟩
  have E5 : Hid (Below h w (w5.setCell ⟨k7, 8, none⟩ (.slice q.lo L.length q.lc)) ∧ Has (w5.setCell ⟨k7, 8, none⟩ (.slice q.lo L.length q.lc)) (h + 1) (ceL ce0 pl0) ∧ COwn (h + 2) (w5.setCell ⟨k7, 8, none⟩ (.slice q.lo L.length q.lc)) (cL c L) q) := by
    have hz := H4.out.2.2.2.2.1
    have P := H4.out.2.2.2.1
    exact ⟨H5.out.2.1.setCell (p := ⟨k7, 8, none⟩) (by show h ≤ k7; omega) _, H5.out.2.2.1.other (by omega) _ _, (fown_young P.2.1 (by omega) H5.out.2.2.2.2.1 _).mono (by omega), (fown_apart H5.out.2.2.2.1 hn7 _).mono (by omega), (fown_young P.2.2.1 (by omega) H5.out.2.2.2.2.2 _).mono (by omega)⟩
  clear H4 o5 g5 hsz hk7 hn7
  obtain ⟨t0, t1, t2, t3, t4, t5, t6, t7, t8, t9⟩ := H5.out.1.ten
  have y8 := H5.out.1.free 8 rfl
  obtain ⟨s0, s1, s2, s3, s4, s5, s6, s7, s8, s9⟩ := H5.out.2.2.1.ten
  obtain ⟨z0, z1, z2, z3, z4, z5, z6, z7, z8, z9⟩ := H5.out.2.2.1.tenf
  have hne : h + 1 ≠ k7 := by omega
  go_wp2_with fail
  exact rend (d := cL c L) (q := q) (a := h + 1) (B := h + 2) (r := 2) E5.out.1 E5.out.2.1 E5.out.2.2 (by omega) (by omega) rfl rfl rfl rfl

end Go.Proofs.Ytghlegidapmpmaa
