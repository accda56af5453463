/-
  The laws' own words for operations: SameOp at two of the same data, CopyOp, SpoilOp, by contracts.
-/
import Derived.Test.YtgkddimijmnpcaaGreatDoorZReadS11
import Derived.Test.YtgkddimijmnpcaaGreatDoorZPack1
import Derived.Test.YtgkddimijmnpcaaGreatDoorZPack2
import Derived.Test.YtgkddimijmnpcaaGreatDoorZMid9
namespace Go.Proofs.YtgkddimijmnpcaaGreatDoor
open Go.RowKit
set_option linter.unusedVariables false
set_option linter.unusedSimpArgs false

theorem Siz.lenI {o : O14} (h : Siz o) : o.deps.length ≤ maxLen := by have := h.deps; unfold maxLen; omega
theorem Siz.lenD {o : O14} (h : Siz o) : o.dots.length ≤ maxLen := by have := h.dots; unfold maxLen; omega

/-- What the comparison keeps: both operations, in blocks h and h + 1. -/
def Same2O (w : World) (h : Nat) (o : O14) (p q : Pq) (w1 : World) : Prop := Below h w w1 ∧ Has w1 h (oL o p) ∧ Has w1 (h + 1) (oL o q)
theorem same2O_new (w : World) (o : O14) (p q : Pq) (t : TypeId) : Same2O w w.heap.size o p q ((w.alloc (.cells (oL o p).toArray t)).alloc (.cells (oL o q).toArray t)) := by
  refine ⟨((Below.refl _ _).alloc (Nat.le_refl _) _).alloc (by simp) _, (has_new _ _ _).alloc _, ?_⟩
  have := has_new (w.alloc (.cells (oL o p).toArray t)) (oL o q) t
  simpa using this
theorem Same2O.later {w w1 w2 : World} {h : Nat} {o : O14} {p q : Pq} (H : Same2O w h o p q w1) (hb : Below w1.heap.size w1 w2) : Same2O w h o p q w2 :=
  ⟨H.1.trans (hb.mono (by have := H.2.1.1; omega)), H.2.1.later hb, H.2.2.later hb⟩

set_option maxHeartbeats 4000000 in
set_option maxRecDepth 100000 in
theorem sameOp_any (o : O14) (p q : Pq) (w : World) (hp : ORow w o p) (hq : ORow w o q) (hs : Siz o) :
    Calls Tryz.prog 24 #[oV o p, oV o q] w fun e w' => e = .returned (.bool true) ∧ Below w.heap.size w w' := by
  have HS : Hid (Siz o) := hs
  have H0 : Hid (Same2O w w.heap.size o p q ((w.alloc (.cells (oL o p).toArray 35)).alloc (.cells (oL o q).toArray 35))) := same2O_new w o p q 35
  obtain ⟨h, hh⟩ : ∃ h, w.heap.size = h := ⟨_, rfl⟩
  rw [hh] at H0 ⊢
  have HR : Hid (ORow w o p ∧ ORow w o q) := ⟨hp, hq⟩
  clear hp hq hs
  obtain ⟨po, pc, qo, qc⟩ := p
  obtain ⟨ro, rc, so, sc⟩ := q
  go_enter Tryz.func24, Tryz.ntmps24
  go_wp2_with fail
  refine (sameInts_any po ro pc rc o.deps _ (HR.out.1.later (hh.symm ▸ H0.out.1)).1 (HR.out.2.later (hh.symm ▸ H0.out.1)).1 HS.out.lenI).mono ?_
  rintro e w1 ⟨rfl, b1⟩
  have H1 : Hid (Same2O w h o ⟨po, pc, qo, qc⟩ ⟨ro, rc, so, sc⟩ w1) := H0.out.later b1
  clear b1 H0
  obtain ⟨a0, a1, a2, a3, a4, a5, a6, a7, a8, a9, a10, a11, a12, a13⟩ := (show Has w1 h (oL o ⟨po, pc, qo, qc⟩) from H1.out.2.1).f14
  obtain ⟨b0, b1, b2, b3, b4, b5, b6, b7, b8, b9, b10, b11, b12, b13⟩ := (show Has w1 (h + 1) (oL o ⟨ro, rc, so, sc⟩) from H1.out.2.2).f14
  go_wp2_with fail
  refine (dsame_any qo so qc sc o.dots _ (HR.out.1.later (hh.symm ▸ H1.out.1)).2 (HR.out.2.later (hh.symm ▸ H1.out.1)).2 HS.out.lenD).mono ?_
  rintro e w2 ⟨rfl, b2⟩
  go_wp2
  go_ret
  exact ⟨rfl, (H1.out.later b2).1⟩

/-- Its rows lie in memory of their own. -/
def OFwn (B : Nat) (w : World) (o : O14) (q : Pq) : Prop := FOwn B w q.po (flatI o.deps) ∧ FOwn B w q.qo (flatD o.dots)
theorem OFwn.row {B : Nat} {w : World} {o : O14} {q : Pq} (h : OFwn B w o q) : ORow w o q := ⟨h.1.row, h.2.row⟩
theorem OOwn.fwn {B : Nat} {w : World} {o : O14} {q : Pq} (h : OOwn B w o q) : OFwn B w o q := ⟨own_row h.1, own_row h.2⟩

/-- What a copy keeps: the operation in block h, room for the answer in block h + 1. -/
def CopyO (w : World) (h : Nat) (o : O14) (p : Pq) (w1 : World) : Prop := Below h w w1 ∧ Has w1 h (oL o p) ∧ Has w1 (h + 1) zL
theorem copyO_new (w : World) (o : O14) (p : Pq) (t : TypeId) : CopyO w w.heap.size o p ((w.alloc (.cells (oL o p).toArray t)).alloc (.cells zL.toArray t)) := by
  refine ⟨((Below.refl _ _).alloc (Nat.le_refl _) _).alloc (by simp) _, (has_new _ _ _).alloc _, ?_⟩
  have := has_new (w.alloc (.cells (oL o p).toArray t)) zL t
  simpa using this
theorem CopyO.size {w w1 : World} {h : Nat} {o : O14} {p : Pq} (H : CopyO w h o p w1) : h + 2 ≤ w1.heap.size := by have := H.2.2.1; omega
theorem CopyO.under {w w1 w2 : World} {h B : Nat} {o : O14} {p : Pq} (H : CopyO w h o p w1) (hB : h + 2 ≤ B) (hb : Below B w1 w2) : CopyO w h o p w2 :=
  ⟨H.1.trans (hb.mono (by omega)), H.2.1.under (by omega) hb, H.2.2.under (by omega) hb⟩
theorem CopyO.alloc {w w1 : World} {h : Nat} {o : O14} {p : Pq} (H : CopyO w h o p w1) (x : Obj) : CopyO w h o p (w1.alloc x) := H.under H.size ((Below.refl _ _).alloc (Nat.le_refl _) _)
theorem CopyO.set {w w1 : World} {h : Nat} {o : O14} {p p' : Pq} (H : CopyO w h o p w1) (i : Nat) (v : Value) (he : (oL o p).set i v = oL o p') : CopyO w h o p' (w1.setCell ⟨h, i, none⟩ v) :=
  ⟨H.1.setCell (p := ⟨h, i, none⟩) (Nat.le_refl _) _, he ▸ H.2.1.put i v, H.2.2.other (by omega) _ _⟩

theorem below_putO14 {B : Nat} {a w : World} (h : Below B a w) {g : Nat} (hg : B ≤ g) (o : O14) (q : Pq) : Below B a (putO14 w g o q) :=
  ((((((((((((((h.setCell (p := ⟨g, 0, none⟩) hg _).setCell (p := ⟨g, 1, none⟩) hg _).setCell (p := ⟨g, 2, none⟩) hg _).setCell (p := ⟨g, 3, none⟩) hg _).setCell (p := ⟨g, 4, none⟩) hg _).setCell (p := ⟨g, 5, none⟩) hg _).setCell (p := ⟨g, 6, none⟩) hg _).setCell (p := ⟨g, 7, none⟩) hg _).setCell (p := ⟨g, 8, none⟩) hg _).setCell (p := ⟨g, 9, none⟩) hg _).setCell (p := ⟨g, 10, none⟩) hg _).setCell (p := ⟨g, 11, none⟩) hg _).setCell (p := ⟨g, 12, none⟩) hg _).setCell (p := ⟨g, 13, none⟩) hg _)
theorem fown_putO14 {B g : Nat} {w : World} {ao : Option Addr} {xs : List Value} (h : FOwn B w ao xs) (hg : g < B) (o : O14) (q : Pq) : FOwn B (putO14 w g o q) ao xs :=
  (((((((((((((h.off hg _ _).off hg _ _).off hg _ _).off hg _ _).off hg _ _).off hg _ _).off hg _ _).off hg _ _).off hg _ _).off hg _ _).off hg _ _).off hg _ _).off hg _ _).off hg _ _

set_option maxHeartbeats 4000000 in
set_option maxRecDepth 100000 in
theorem copyOp_any (o : O14) (p : Pq) (w : World) (hr : ORow w o p) (hs : Siz o) :
    Calls Tryz.prog 10 #[oV o p] w fun e w' => ∃ q, e = .returned (oV o q) ∧ OFwn w.heap.size w' o q ∧ Below w.heap.size w w' := by
  have HS : Hid (Siz o) := hs
  obtain ⟨po, pc, qo, qc⟩ := p
  have H0 : Hid (CopyO w w.heap.size o ⟨po, pc, qo, qc⟩ ((w.alloc (.cells (oL o ⟨po, pc, qo, qc⟩).toArray 35)).alloc (.cells zL.toArray 35))) := copyO_new w o _ 35
  obtain ⟨h, hh⟩ : ∃ h, w.heap.size = h := ⟨_, rfl⟩
  rw [hh] at H0 ⊢
  have HR : Hid (ORow w o ⟨po, pc, qo, qc⟩) := hr
  have HW : Hid (w.heap.size = h) := hh
  clear hr hs
  go_enter Tryz.func10, Tryz.ntmps10
  go_upto_region 1 with fail
  generalize hE : (w.alloc (.cells (oL o ⟨po, pc, qo, qc⟩).toArray 35)).alloc (.cells zL.toArray 35) = w1 at H0 ⊢
  clear hE
  try simp only [hh, World.size_alloc]
  clear hh
  obtain ⟨k1, hk1⟩ : ∃ k, w1.heap.size = k := ⟨_, rfl⟩
  have hs1 : h + 2 ≤ k1 := by have := H0.out.size; omega
  have hlt1 : h < k1 := by omega
  obtain ⟨t0, t1, t2, t3, t4, t5, t6, t7, t8, t9, t10, t11, t12, t13⟩ := (show Has w1 h (oL o ⟨po, pc, qo, qc⟩) from H0.out.2.1).f14
  have y3 := H0.out.2.1.free 3 rfl
  go_wp2_with (first
    | (at_builtin
       refine wpList_copy rfl _ _ 28 rfl (B := k1) Tryz.underlying28 Tryz.infoInt rfl (by decide) (by decide) (g := some k1) rfl rfl (own_empty (by simp [hk1])) (HR.out.later (HW.out.symm ▸ (H0.out.alloc _).1)).1 (flatI_len _) (fun u hu => oneI hu) (by have := HS.out.deps; omega) (by simp [hk1]) ?_
       intro ao1 ca1 w2 o1 _ b1
       have H1 : Hid (CopyO w h o ⟨po, pc, qo, qc⟩ w2 ∧ FOwn k1 w2 ao1 (flatI o.deps)) := ⟨(H0.out.alloc _).under hs1 b1, o1⟩
       obtain ⟨k2, hk2⟩ : ∃ k, w2.heap.size = k := ⟨_, rfl⟩
       have HK2 : Hid (w2.heap.size = k2) := hk2
       have hs2 : h + 2 ≤ k2 := by have := H1.out.1.size; omega
       clear t0 t1 t2 t3 t4 t5 t6 t7 t8 t9 t10 t11 t12 t13 y3
       obtain ⟨t0, t1, t2, t3, t4, t5, t6, t7, t8, t9, t10, t11, t12, t13⟩ := (show Has w2 h (oL o ⟨po, pc, qo, qc⟩) from H1.out.1.2.1).f14
       have y3 := H1.out.1.2.1.free 3 rfl
       have y13 := H1.out.1.2.1.free 13 rfl
       have hlt2 : h < k2 := by omega
       clear o1 b1 H0)
    | (at_builtin
       refine wpList_copy rfl _ _ 33 rfl (B := k2) Tryz.underlying33 Tryz.infoDot rfl (by decide) (by decide) (g := some k2) rfl rfl (own_empty (by simp [hk2])) (HR.out.later (HW.out.symm ▸ ((H1.out.1.set (p' := ⟨ao1, ca1, qo, qc⟩) 3 (.slice ao1 o.deps.length ca1) rfl).alloc _).1)).2 (flatD_len _) (fun u hu => oneD hu) (by have := HS.out.dots; omega) (by simp [hk2]) ?_
       intro ao2 ca2 w4 o2 _ b2
       have H3 : Hid (CopyO w h o ⟨ao1, ca1, qo, qc⟩ w4 ∧ FOwn k1 w4 ao1 (flatI o.deps) ∧ FOwn k2 w4 ao2 (flatD o.dots)) := ⟨((H1.out.1.set (p' := ⟨ao1, ca1, qo, qc⟩) 3 (.slice ao1 o.deps.length ca1) rfl).alloc _).under hs2 b2, (H1.out.2.off (by omega) 3 _).kept (by simp; exact Nat.le_of_eq HK2.out) ((Below.refl _ _).alloc (Nat.le_refl _) _) b2, o2⟩
       clear t0 t1 t2 t3 t4 t5 t6 t7 t8 t9 t10 t11 t12 t13 y3 y13
       obtain ⟨t0, t1, t2, t3, t4, t5, t6, t7, t8, t9, t10, t11, t12, t13⟩ := (show Has w4 h (oL o ⟨ao1, ca1, qo, qc⟩) from H3.out.1.2.1).f14
       have y13 := H3.out.1.2.1.free 13 rfl
       obtain ⟨b0, b1, b2', b3, b4, b5, b6, b7, b8, b9, b10, b11, b12, b13⟩ := (show Has w4 (h + 1) zL from H3.out.1.2.2).f14
       obtain ⟨f0, f1, f2, f3, f4, f5, f6, f7, f8, f9, f10, f11, f12, f13⟩ := (show Has w4 (h + 1) zL from H3.out.1.2.2).f14f
       clear o2 b2 H1 hk2))
  have H4 : Hid (CopyO w h o ⟨ao1, ca1, ao2, ca2⟩ (w4.setCell ⟨h, 13, none⟩ (.slice ao2 o.dots.length ca2)) ∧ FOwn k1 (w4.setCell ⟨h, 13, none⟩ (.slice ao2 o.dots.length ca2)) ao1 (flatI o.deps) ∧ FOwn k2 (w4.setCell ⟨h, 13, none⟩ (.slice ao2 o.dots.length ca2)) ao2 (flatD o.dots)) := ⟨H3.out.1.set 13 _ rfl, H3.out.2.1.off (by omega) 13 _, H3.out.2.2.off (by omega) 13 _⟩
  clear H3
  generalize w4.setCell ⟨h, 13, none⟩ (.slice ao2 o.dots.length ca2) = w5 at H4 ⊢
  have HEND : Has (putO14 w5 (h + 1) o ⟨ao1, ca1, ao2, ca2⟩) (h + 1) (oL o ⟨ao1, ca1, ao2, ca2⟩) ∧ OFwn h (putO14 w5 (h + 1) o ⟨ao1, ca1, ao2, ca2⟩) o ⟨ao1, ca1, ao2, ca2⟩ ∧ Below h w (putO14 w5 (h + 1) o ⟨ao1, ca1, ao2, ca2⟩) := ⟨has_putO o _ H4.out.1.2.2 rfl, ⟨(fown_putO14 (H4.out.2.1.mono hs1) (by omega) o _).mono (by omega), (fown_putO14 (H4.out.2.2.mono hs2) (by omega) o _).mono (by omega)⟩, below_putO14 H4.out.1.1 (by omega) o _⟩
  exact bodyPost_ret (ret_op rfl rfl HEND.1) rfl ⟨⟨ao1, ca1, ao2, ca2⟩, rfl, HEND.2⟩

/-- SpoilInts, and other numbers that stay numbers. -/
theorem spoilIntsK (B h : Nat) (ao bo : Option Addr) (ca n m s o : Nat) (w : World) (ha : Nums B h w ao n 1 0) (hla : n ≤ maxLen) (hk : Nums B h w bo m s o) :
    Calls Tryz.prog 40 #[.slice ao n ca] w fun e w' => e = .returned (.tuple #[]) ∧ Mid B h w w' ∧ Nums B h w' bo m s o := by
  have HA : Hid (Nums B h w ao n 1 0) := ha
  have HB : Hid (Nums B h w bo m s o) := hk
  clear ha hk
  unfold maxLen at hla
  by_cases h0 : 0 < n
  · obtain ⟨g, rfl, hB, hg, _⟩ := HA.out h0
    go_enter Tryz.func40, Tryz.ntmps40
    go_wp2
    go_loopg [2] n (fun k iv wr => ∃ i : Nat, i + k = n ∧ iv = .int .i64 i ∧ Mid B h w wr ∧ Nums B h wr (some ⟨g, 0, none⟩) n 1 0 ∧ Hid (Nums B h wr bo m s o))
    case atStart => exact ⟨0, by omega, rfl, Mid.refl _ _ _, HA.out, HB⟩
    case round =>
      obtain ⟨i, hin, rfl, hbel, hnum, HM⟩ := hrel
      have HN : Hid (Nums B h wr (some ⟨g, 0, none⟩) n 1 0) := hnum
      clear hnum
      by_cases hi : i < n
      · obtain ⟨g', e, _, _, _, h5⟩ := HN.out h0
        simp only [Option.some.injEq, Addr.mk.injEq, and_true] at e
        subst e
        obtain ⟨⟨z, hz⟩, hf⟩ := h5 i hi
        rw [Nat.mul_one, Nat.add_zero] at hz hf
        clear h5
        go_wp2
        go_roundg (gk - 1)
        case measure => omega
        case rel => exact ⟨i + 1, by omega, by go_num, hbel.set hB hg _ _, HN.out.set _ _ _, HM.out.set _ _ _⟩
      · have hd : decide ((i : Int) < (n : Int)) = false := by simp; omega
        go_wp2
        first | go_ret | go_end0
        exact ⟨rfl, hbel, HM.out⟩
  · obtain rfl : n = 0 := by omega
    go_enter Tryz.func40, Tryz.ntmps40
    go_wp2
    refine wp_loop_rounds 1 ?_
    rw [rounds_succ]
    go_wp2
    first | go_ret | go_end0
    exact ⟨rfl, Mid.refl _ _ _, HB.out⟩

theorem nums_op {B : Nat} {w : World} {o : O14} {q : Pq} (H : OFwn B w o q) : Nums B w.heap.size w q.po o.deps.length 1 0 ∧ Nums B w.heap.size w q.qo o.dots.length 2 1 := by
  refine ⟨fun h0 => ?_, fun h0 => ?_⟩
  · obtain ⟨g, h1, h2, h3, h4⟩ := H.1 (by rw [flatI_len]; omega)
    refine ⟨g, h1, h2, h3, Nat.le_refl _, fun j hj => ?_⟩
    rw [Nat.mul_one, Nat.add_zero]
    have := flatI_at o.deps j (List.getElem?_eq_getElem hj)
    exact ⟨⟨_, (h4 _ _ this).1⟩, (h4 _ _ this).2⟩
  · obtain ⟨g, h1, h2, h3, h4⟩ := H.2 (by rw [flatD_len]; omega)
    refine ⟨g, h1, h2, h3, Nat.le_refl _, fun j hj => ?_⟩
    have := (flatD_at o.dots j (List.getElem?_eq_getElem hj)).2
    exact ⟨⟨_, (h4 _ _ this).1⟩, (h4 _ _ this).2⟩

end Go.Proofs.YtgkddimijmnpcaaGreatDoor

