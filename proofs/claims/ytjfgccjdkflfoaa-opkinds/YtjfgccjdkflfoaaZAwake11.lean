/-
  The law's own first look at package op ('awake'): it answers true.
-/
import Derived.Test.YtjfgccjdkflfoaaZOne11
import Derived.Test.YtjfgccjdkflfoaaZRefGet11
import Derived.Test.YtjfgccjdkflfoaaZPack4
import Derived.Deep.RegionHeld3
namespace Go.Proofs.Ytjfgccjdkflfoaa
open Go.RowKit
set_option linter.unusedVariables false
set_option linter.unusedSimpArgs false

abbrev one0 : O14 := ⟨1, 3, 9, [4, 2], 0, bT, bi, bf, bv, 0, 0, 0, 0, []⟩
abbrev one1 : O14 := ⟨1, 3, 9, [4, 2], 1, bT, bi, bf, noS, -2, 3, 0, 0, []⟩
abbrev one3 : O14 := ⟨1, 3, 9, [4, 2], 3, bT, bi, bf, noS, 0, 0, 0, 0, [(0, 4), (1, 2)]⟩
abbrev badO : O14 := ⟨1, 3, 9, [4, 3], 0, bT, bi, bf, bv, 0, 0, 0, 0, []⟩
abbrev aS : ByteArray := ⟨#[1, 3, 9, 4, 2, 1, 1, 84, 1, 105, 1, 102, 3, 6]⟩
theorem one0_at (w : World) : Calls Try.prog 21 #[.int .i64 0] w fun e w' => ∃ q, e = .returned (oV one0 q) ∧ OOwn w.heap.size w' one0 q ∧ Below w.heap.size w w' := one_0 w
theorem one1_at (w : World) : Calls Try.prog 21 #[.int .i64 1] w fun e w' => ∃ q, e = .returned (oV one1 q) ∧ OOwn w.heap.size w' one1 q ∧ Below w.heap.size w w' := one_1 w
theorem one3_at (w : World) : Calls Try.prog 21 #[.int .i64 3] w fun e w' => ∃ q, e = .returned (oV one3 q) ∧ OOwn w.heap.size w' one3 q ∧ Below w.heap.size w w' := one_3 w
theorem may_one (k : Nat) (hk : k ≤ 5) : mayO (oneO k) 2 = true := by
  have : k = 0 ∨ k = 1 ∨ k = 2 ∨ k = 3 ∨ k = 4 ∨ k = 5 := by omega
  rcases this with rfl | rfl | rfl | rfl | rfl | rfl <;> decide +kernel
theorem may_bad : mayO badO 2 = false := by decide +kernel
theorem put_one1 : putO one1 = [1, 3, 9, 4, 2, 1, 1, 84, 1, 105, 1, 102, 3, 6] := by decide +kernel
theorem putA_one1 : putA one1 2 = aS := by
  unfold putA
  rw [show mayO one1 2 = true from may_one 1 (by decide), put_one1]
  rfl
theorem putE_one1 : putE one1 2 = 0 := by
  unfold putE
  rw [show mayO one1 2 = true from may_one 1 (by decide)]
  rfl
theorem putE_bad : putE badO 2 = 1100 := by
  unfold putE
  rw [may_bad]
  rfl
theorem get_one1 : getO aS.data.toList 2 = one1 ∧ getE aS.data.toList 2 = 0 := by
  have h := put_ok (o := one1) (n := 2) (may_one 1 (by decide))
  rw [put_one1] at h
  have e : aS.data.toList = [1, 3, 9, 4, 2, 1, 1, 84, 1, 105, 1, 102, 3, 6] := rfl
  unfold getO getE
  rw [e, h.1]
  exact ⟨h.2, rfl⟩
theorem get_more : getO (aS ++ ⟨#[120]⟩ : ByteArray).data.toList 2 = o0 ∧ getE (aS ++ ⟨#[120]⟩ : ByteArray).data.toList 2 = 1100 := by
  have e : (aS ++ ⟨#[120]⟩ : ByteArray).data.toList = [1, 3, 9, 4, 2, 1, 1, 84, 1, 105, 1, 102, 3, 6, 120] := by decide +kernel
  have h : okG [1, 3, 9, 4, 2, 1, 1, 84, 1, 105, 1, 102, 3, 6, 120] 2 = false := by decide +kernel
  unfold getO getE
  rw [e, h]
  exact ⟨rfl, rfl⟩
theorem siz_one1 : Siz one1 := ⟨by decide, by decide, by decide, by decide, by decide, by decide⟩
theorem siz_one3 : Siz one3 := ⟨by decide, by decide, by decide, by decide, by decide, by decide⟩
theorem siz_bad : Siz badO := ⟨by decide, by decide, by decide, by decide, by decide, by decide⟩

theorem may_at3 (q : Pq) (W : World) (hr : ORow W one3 q) : Calls Try.prog 16 #[oV one3 q, .int .i64 2] W fun e w' => e = .returned (.bool true) ∧ Below W.heap.size W w' := by
  have h := omay_any one3 q 2 W hr siz_one3
  have e : mayO one3 2 = true := by decide +kernel
  rw [e] at h
  exact h
theorem may_atB (q : Pq) (W : World) (hr : ORow W badO q) : Calls Try.prog 16 #[oV badO q, .int .i64 2] W fun e w' => e = .returned (.bool false) ∧ Below W.heap.size W w' := by
  have h := omay_any badO q 2 W hr siz_bad
  rw [may_bad] at h
  exact h

/-- What the last region keeps: the operation that was read, in block a; the bad one, in block b. -/
structure AK (w : World) (h a b : Nat) (q p : Pq) (W : World) : Prop where
  low : Below h w W ∧ h ≤ W.heap.size
  cur : Has W a (oL one1 q)
  row : ORow W one1 q
  bad : Has W b (oL badO p)
  brow : ORow W badO p
theorem AK.later {w W W' : World} {h a b : Nat} {q p : Pq} (H : AK w h a b q p W) (hb : Below W.heap.size W W') : AK w h a b q p W' :=
  ⟨⟨H.low.1.trans (hb.mono H.low.2), Nat.le_trans H.low.2 hb.size⟩, H.cur.later hb, H.row.later hb, H.bad.later hb, H.brow.later hb⟩
abbrev HeldAK (w : World) (h a b : Nat) (po : Option Addr) (pc : Nat) (qo : Option Addr) (qc : Nat) (ro : Option Addr) (rc : Nat) (so : Option Addr) (sc : Nat) (W : World) : Prop :=
  Hid (AK w h a b ⟨po, pc, qo, qc⟩ ⟨ro, rc, so, sc⟩ W) ∧ W.cell? ⟨a, 0, none⟩ = some (.int .i64 1) ∧ W.cell? ⟨a, 1, none⟩ = some (.int .i64 3) ∧ W.cell? ⟨a, 2, none⟩ = some (.int .i64 9) ∧ W.cell? ⟨a, 3, none⟩ = some (.slice po 2 pc) ∧ W.cell? ⟨a, 4, none⟩ = some (.int .i64 1) ∧ W.cell? ⟨a, 5, none⟩ = some (.string bT) ∧ W.cell? ⟨a, 6, none⟩ = some (.string bi) ∧ W.cell? ⟨a, 7, none⟩ = some (.string bf) ∧ W.cell? ⟨a, 8, none⟩ = some (.string noS) ∧ W.cell? ⟨a, 9, none⟩ = some (.int .i64 (-2)) ∧ W.cell? ⟨a, 10, none⟩ = some (.int .i64 3) ∧ W.cell? ⟨a, 11, none⟩ = some (.int .i64 0) ∧ W.cell? ⟨a, 12, none⟩ = some (.int .i64 0) ∧ W.cell? ⟨a, 13, none⟩ = some (.slice qo 0 qc) ∧ W.cell? ⟨b, 0, none⟩ = some (.int .i64 1) ∧ W.cell? ⟨b, 1, none⟩ = some (.int .i64 3) ∧ W.cell? ⟨b, 2, none⟩ = some (.int .i64 9) ∧ W.cell? ⟨b, 3, none⟩ = some (.slice ro 2 rc) ∧ W.cell? ⟨b, 4, none⟩ = some (.int .i64 0) ∧ W.cell? ⟨b, 5, none⟩ = some (.string bT) ∧ W.cell? ⟨b, 6, none⟩ = some (.string bi) ∧ W.cell? ⟨b, 7, none⟩ = some (.string bf) ∧ W.cell? ⟨b, 8, none⟩ = some (.string bv) ∧ W.cell? ⟨b, 9, none⟩ = some (.int .i64 0) ∧ W.cell? ⟨b, 10, none⟩ = some (.int .i64 0) ∧ W.cell? ⟨b, 11, none⟩ = some (.int .i64 0) ∧ W.cell? ⟨b, 12, none⟩ = some (.int .i64 0) ∧ W.cell? ⟨b, 13, none⟩ = some (.slice so 0 sc)
theorem heldAK_of {w W : World} {h a b : Nat} {po : Option Addr} {pc : Nat} {qo : Option Addr} {qc : Nat} {ro : Option Addr} {rc : Nat} {so : Option Addr} {sc : Nat} (H : AK w h a b ⟨po, pc, qo, qc⟩ ⟨ro, rc, so, sc⟩ W) : HeldAK w h a b po pc qo qc ro rc so sc W :=
  ⟨H, H.cur.at 0 rfl, H.cur.at 1 rfl, H.cur.at 2 rfl, H.cur.at 3 rfl, H.cur.at 4 rfl, H.cur.at 5 rfl, H.cur.at 6 rfl, H.cur.at 7 rfl, H.cur.at 8 rfl, H.cur.at 9 rfl, H.cur.at 10 rfl, H.cur.at 11 rfl, H.cur.at 12 rfl, H.cur.at 13 rfl, H.bad.at 0 rfl, H.bad.at 1 rfl, H.bad.at 2 rfl, H.bad.at 3 rfl, H.bad.at 4 rfl, H.bad.at 5 rfl, H.bad.at 6 rfl, H.bad.at 7 rfl, H.bad.at 8 rfl, H.bad.at 9 rfl, H.bad.at 10 rfl, H.bad.at 11 rfl, H.bad.at 12 rfl, H.bad.at 13 rfl⟩
theorem heldAK_later {w W W' : World} {h a b : Nat} {po : Option Addr} {pc : Nat} {qo : Option Addr} {qc : Nat} {ro : Option Addr} {rc : Nat} {so : Option Addr} {sc : Nat} (hb : Below W.heap.size W W') (H : HeldAK w h a b po pc qo qc ro rc so sc W) : HeldAK w h a b po pc qo qc ro rc so sc W' := heldAK_of (H.1.out.later hb)

set_option maxHeartbeats 8000000 in
set_option maxRecDepth 100000 in
theorem awake11_any (w : World) :
    Calls Try.prog 20 #[] w fun e w' => e = .returned (.bool true) ∧ Below w.heap.size w w' := by
  obtain ⟨h, hh⟩ : ∃ h, w.heap.size = h := ⟨_, rfl⟩
  have HW : Hid (w.heap.size = h) := hh
  rw [hh]
  clear hh
  go_enter Try.func20, Try.ntmps20
  go_wp2_with fail
  refine (one1_at w).mono ?_
  rintro e w1 ⟨q1, rfl, own1, b1⟩
  have C1 := oput_any one1 q1 2 w1 own1.row siz_one1
  rw [putA_one1, putE_one1] at C1
  have L1 : Hid (Below h w w1 ∧ h ≤ w1.heap.size) := ⟨HW.out ▸ b1, by have := b1.size; have := HW.out; omega⟩
  clear own1 b1
  go_wp2_with fail
  refine C1.mono ?_
  rintro e w2 ⟨rfl, b2⟩
  have L2 : Hid (Below h w w2 ∧ h ≤ w2.heap.size) := ⟨L1.out.1.trans (b2.mono L1.out.2), Nat.le_trans L1.out.2 b2.size⟩
  clear C1 L1 b2
  have C2 := oget_any aS 2 w2 (by decide)
  rw [get_one1.1, get_one1.2] at C2
  go_upto_region 2 with fail
  go_wp2_with fail
  refine C2.mono ?_
  rintro e w3 ⟨⟨po, pc, qo, qc⟩, rfl, own3, b3⟩
  obtain ⟨a, ha⟩ : ∃ a, w3.heap.size = a := ⟨_, rfl⟩
  have L3 : Hid ((Below h w (w3.alloc (.cells (oL one1 ⟨po, pc, qo, qc⟩).toArray 29)) ∧ h ≤ (w3.alloc (.cells (oL one1 ⟨po, pc, qo, qc⟩).toArray 29)).heap.size) ∧ Has (w3.alloc (.cells (oL one1 ⟨po, pc, qo, qc⟩).toArray 29)) a (oL one1 ⟨po, pc, qo, qc⟩) ∧ ORow (w3.alloc (.cells (oL one1 ⟨po, pc, qo, qc⟩).toArray 29)) one1 ⟨po, pc, qo, qc⟩) := by
    have hal : Below w3.heap.size w3 (w3.alloc (.cells (oL one1 ⟨po, pc, qo, qc⟩).toArray 29)) := (Below.refl _ _).alloc (Nat.le_refl _) _
    have hz := b3.size
    have h2 := L2.out.2
    exact ⟨⟨(L2.out.1.trans (b3.mono h2)).trans (hal.mono (by omega)), by have := hal.size; omega⟩, ha ▸ has_new w3 _ _, own3.row.later hal⟩
  clear C2 L2 b3 own3
  go_upto_region 3 with fail
  generalize hE : w3.alloc (.cells (oL one1 ⟨po, pc, qo, qc⟩).toArray 29) = w4 at L3 ⊢
  clear hE
  try simp only [ha]
  clear ha
  have hb1 : ¬ (9223372036854775807 < (aS : ByteArray).size + (⟨#[120]⟩ : ByteArray).size) := by decide
  have C4 := oget_any (aS ++ ⟨#[120]⟩) 2 w4 (by decide +kernel)
  rw [get_more.1, get_more.2] at C4
  have SX : Hid True := trivial
  go_wp2_with fail
  refine C4.mono ?_
  rintro e w5 ⟨q5, rfl, own5, b5⟩
  have L5 : Hid ((Below h w (w5.alloc (.cells (oL o0 q5).toArray 29)) ∧ h ≤ (w5.alloc (.cells (oL o0 q5).toArray 29)).heap.size) ∧ Has (w5.alloc (.cells (oL o0 q5).toArray 29)) a (oL one1 ⟨po, pc, qo, qc⟩) ∧ ORow (w5.alloc (.cells (oL o0 q5).toArray 29)) one1 ⟨po, pc, qo, qc⟩) := by
    have hal : Below w5.heap.size w5 (w5.alloc (.cells (oL o0 q5).toArray 29)) := (Below.refl _ _).alloc (Nat.le_refl _) _
    have hz := b5.size
    have h2 := L3.out.1.2
    exact ⟨⟨(L3.out.1.1.trans (b5.mono h2)).trans (hal.mono (by omega)), by have := hal.size; omega⟩, (L3.out.2.1.later b5).later hal, (L3.out.2.2.later b5).later hal⟩
  clear C4 L3 b5 own5 hb1
  obtain ⟨p50, p51, p52, p53⟩ := q5
  go_upto_region 4 with fail
  generalize hE : w5.alloc (.cells (oL o0 ⟨p50, p51, p52, p53⟩).toArray 29) = w6 at L5 ⊢
  clear hE
  go_wp2_with fail
  refine (one0_at w6).mono ?_
  rintro e w7 ⟨⟨ro, rc, so, sc⟩, rfl, own7, b7⟩
  obtain ⟨g, hro, hB, hg, hc⟩ := own7.fwn.1 (by decide)
  have hc1 := hc 1 (.int .i64 2) rfl
  have hc0 := hc 0 (.int .i64 4) rfl
  simp only at hro
  subst hro
  obtain ⟨b, hb⟩ : ∃ b, w7.heap.size = b := ⟨_, rfl⟩
  have L7 : Hid ((Below h w (w7.alloc (.cells (oL one0 ⟨some ⟨g, 0, none⟩, rc, so, sc⟩).toArray 29)) ∧ h ≤ (w7.alloc (.cells (oL one0 ⟨some ⟨g, 0, none⟩, rc, so, sc⟩).toArray 29)).heap.size) ∧ Has (w7.alloc (.cells (oL one0 ⟨some ⟨g, 0, none⟩, rc, so, sc⟩).toArray 29)) a (oL one1 ⟨po, pc, qo, qc⟩) ∧ ORow (w7.alloc (.cells (oL one0 ⟨some ⟨g, 0, none⟩, rc, so, sc⟩).toArray 29)) one1 ⟨po, pc, qo, qc⟩ ∧ Has (w7.alloc (.cells (oL one0 ⟨some ⟨g, 0, none⟩, rc, so, sc⟩).toArray 29)) b (oL one0 ⟨some ⟨g, 0, none⟩, rc, so, sc⟩) ∧
      a < g ∧ g < b ∧ w6.heap.size ≤ g ∧ h ≤ g ∧ Below w6.heap.size w6 (w7.alloc (.cells (oL one0 ⟨some ⟨g, 0, none⟩, rc, so, sc⟩).toArray 29))) := by
    have hal : Below w7.heap.size w7 (w7.alloc (.cells (oL one0 ⟨some ⟨g, 0, none⟩, rc, so, sc⟩).toArray 29)) := (Below.refl _ _).alloc (Nat.le_refl _) _
    have hz := b7.size
    have h2 := L5.out.1.2
    have h3 := L5.out.2.1.1
    exact ⟨⟨(L5.out.1.1.trans (b7.mono h2)).trans (hal.mono (by omega)), by have := hal.size; omega⟩, (L5.out.2.1.later b7).later hal, (L5.out.2.2.later b7).later hal, hb ▸ has_new w7 _ _, by omega, by omega, hB, by omega, b7.trans (hal.mono (by omega))⟩
  have G : Hid (((w7.alloc (.cells (oL one0 ⟨some ⟨g, 0, none⟩, rc, so, sc⟩).toArray 29)).cell? ⟨g, 0, none⟩ = some (.int .i64 4) ∧ (w7.alloc (.cells (oL one0 ⟨some ⟨g, 0, none⟩, rc, so, sc⟩).toArray 29)).cell? ⟨g, 1, none⟩ = some (.int .i64 2)) ∧ (w7.alloc (.cells (oL one0 ⟨some ⟨g, 0, none⟩, rc, so, sc⟩).toArray 29)).frozen? ⟨g, 1, none⟩ = false ∧ g < (w7.alloc (.cells (oL one0 ⟨some ⟨g, 0, none⟩, rc, so, sc⟩).toArray 29)).heap.size) := by
    have hal : Below w7.heap.size w7 (w7.alloc (.cells (oL one0 ⟨some ⟨g, 0, none⟩, rc, so, sc⟩).toArray 29)) := (Below.refl _ _).alloc (Nat.le_refl _) _
    exact ⟨⟨(hal.cell (p := ⟨g, 0, none⟩) hg).trans hc0.1, (hal.cell (p := ⟨g, 1, none⟩) hg).trans hc1.1⟩, (hal.frozen (p := ⟨g, 1, none⟩) hg).trans hc1.2, Nat.lt_of_lt_of_le hg hal.size⟩
  have L6 : Hid (ORow w6 one1 ⟨po, pc, qo, qc⟩) := L5.out.2.2
  clear own7 b7 hc hc0 hc1 hB hg L5
  go_upto_region 5 with fail
  generalize hE : w7.alloc (.cells (oL one0 ⟨some ⟨g, 0, none⟩, rc, so, sc⟩).toArray 29) = w8 at L7 G ⊢
  clear hE
  try simp only [hb]
  clear hb
  have t3 := L7.out.2.2.2.1.at 3 rfl
  have g1 := G.out.1.2
  have gf := G.out.2.1
  have L9 : Hid (AK w h a b ⟨po, pc, qo, qc⟩ ⟨some ⟨g, 0, none⟩, rc, so, sc⟩ (w8.setCell ⟨g, 1, none⟩ (.int .i64 3))) := by
    obtain ⟨⟨l1, l2⟩, l3, l4, l5, l6, l7, l8, l9, l10⟩ := L7.out
    have hb6 : Below w6.heap.size w6 (w8.setCell ⟨g, 1, none⟩ (.int .i64 3)) := l10.setCell (p := ⟨g, 1, none⟩) l8 _
    refine ⟨⟨l1.setCell (p := ⟨g, 1, none⟩) l9 _, by simpa using l2⟩, l3.other (by omega) _ _, L6.out.later hb6, l5.other (by omega) _ _, ?_, FRow.nil _ _⟩
    intro _
    refine ⟨g, 0, rfl, by simpa using G.out.2.2, fun i u hu => ?_⟩
    match i, hu with
    | 0, hu =>
      simp [flatI] at hu
      subst hu
      rw [World.cell?_setCell_other _ _ _ _ (by simp)]
      exact G.out.1.1
    | 1, hu =>
      simp [flatI] at hu
      subst hu
      exact World.cell?_setCell_same _ _ _ G.out.1.2
    | i + 2, hu => simp [flatI] at hu
  clear G L6
  go_upto_region 6 with fail
  clear L7 t3 g1 gf
  generalize hE : w8.setCell ⟨g, 1, none⟩ (.int .i64 3) = w9 at L9 ⊢
  clear hE
  obtain ⟨s0, s1, s2, s3, s4, s5, s6, s7, s8, s9, s10, s11, s12, s13⟩ := (show Has w9 b (oL badO ⟨some ⟨g, 0, none⟩, rc, so, sc⟩) from L9.out.bad).f14
  have C9 := oput_any badO ⟨some ⟨g, 0, none⟩, rc, so, sc⟩ 2 w9 L9.out.brow siz_bad
  rw [putE_bad] at C9
  go_wp2_with fail
  refine C9.mono ?_
  rintro e w10 ⟨rfl, b10⟩
  have LA : Hid (AK w h a b ⟨po, pc, qo, qc⟩ ⟨some ⟨g, 0, none⟩, rc, so, sc⟩ w10) := L9.out.later b10
  clear C9 L9 b10 s0 s1 s2 s3 s4 s5 s6 s7 s8 s9 s10 s11 s12 s13
  go_upto_region 7 with fail
  go_region_held3 (HeldAK w h a b po pc qo qc (some ⟨g, 0, none⟩) rc so sc) (first | (with_reducible apply heldAK_later hb2; assumption) | (with_reducible exact heldAK_of (LA.out.later (Below.refl _ _).drew)) | (with_reducible assumption))
    (first
      | (go_at_call 13; refine (num_any _ _).mono ?_; rintro e w0 ⟨rfl, hw0⟩; have hw1 := hw0.symm; clear hw0; subst hw1)
      | (go_at_call 21; first | (with_reducible refine (one1_at _).mono ?_; rintro e w3 ⟨q', rfl, O3, hb2⟩) | (with_reducible refine (one3_at _).mono ?_; rintro e w3 ⟨q', rfl, O4, hb2⟩))
      | (go_at_call 14; refine (sameOp_any one1 ⟨po, pc, qo, qc⟩ q' _ (‹HeldAK w h a b po pc qo qc (some ⟨g, 0, none⟩) rc so sc _›).1.out.row O3.row siz_one1).mono ?_; rintro e w4 ⟨rfl, hb2⟩)
      | (go_at_call 18; refine (okind_any one1 ⟨po, pc, qo, qc⟩ _).mono ?_; rintro e w5 ⟨rfl, hb2⟩)
      | (go_at_call 16; first | (with_reducible refine (may_at3 q' _ O4.row).mono ?_; rintro e w6 ⟨rfl, hb2⟩) | (refine (may_atB ⟨some ⟨g, 0, none⟩, rc, so, sc⟩ _ (‹HeldAK w h a b po pc qo qc (some ⟨g, 0, none⟩) rc so sc _›).1.out.brow).mono ?_; rintro e w7 ⟨rfl, hb2⟩)))
  all_goals (go_wp2; go_ret; exact ⟨rfl, (‹HeldAK w h a b po pc qo qc (some ⟨g, 0, none⟩) rc so sc _›).1.out.low.1⟩)

end Go.Proofs.Ytjfgccjdkflfoaa

