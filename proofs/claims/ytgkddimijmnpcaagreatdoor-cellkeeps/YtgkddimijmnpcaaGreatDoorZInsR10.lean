/-
  Package rga's Insert, by contract.
-/
import Derived.Test.YtgkddimijmnpcaaGreatDoorZPack3
import Derived.Test.YtgkddimijmnpcaaGreatDoorZPack2
namespace Go.Proofs.YtgkddimijmnpcaaGreatDoor
open Go.RowKit Go.Shelf
set_option linter.unusedVariables false
set_option linter.unusedSimpArgs false

/-- May it come, whatever stands there? -/
def mayX (e : L5) : Bool := mayB e.node e.seq 16 && (decide (1 ≤ e.time ∧ e.time ≤ 16777215) && (decide (e.val.size ≤ 256) && !e.gone))
theorem okX_may (l : List L5) (e : L5) : okX l e = (mayX e && !hasX l (dotX e)) := by
  unfold okX mayX
  cases mayB e.node e.seq 16 <;> cases decide (1 ≤ e.time ∧ e.time ≤ 16777215) <;> cases decide (e.val.size ≤ 256) <;> cases e.gone <;> simp

set_option maxHeartbeats 400000 in
set_option maxRecDepth 100000 in
theorem mayCome_any (e : L5) (w : World) (hv : e.val.size ≤ maxLen) :
    Calls Tryz.prog 112 #[lv e] w fun r w' => r = .returned (.bool (mayX e)) ∧ Below w.heap.size w w' := by
  obtain ⟨en, es, et, ev, eg⟩ := e
  have hal : Below w.heap.size w (w.alloc (.cells (l5 ⟨en, es, et, ev, eg⟩).toArray 59)) := (Below.refl _ _).alloc (Nat.le_refl _) _
  have H0 : Hid (Has (w.alloc (.cells (l5 ⟨en, es, et, ev, eg⟩).toArray 59)) w.heap.size (l5 ⟨en, es, et, ev, eg⟩)) := has_new _ _ _
  obtain ⟨h, hh⟩ : ∃ h, w.heap.size = h := ⟨_, rfl⟩
  have hv' : ev.size ≤ maxLen := hv
  unfold maxLen at hv'
  rw [hh] at H0
  unfold mayX
  simp only
  have C := fun W => may_any en es 16 W
  cases hm : mayB en es 16 with
  | false =>
    rw [hm] at C
    go_enter Tryz.func112, Tryz.ntmps112
    go_wp2_with fail
    refine (C _).mono ?_
    rintro e w1 ⟨rfl, b1⟩
    go_wp2
    go_ret
    exact ⟨rfl, thenB hal b1⟩
  | true =>
    rw [hm] at C
    go_enter Tryz.func112, Tryz.ntmps112
    go_wp2_with fail
    refine (C _).mono ?_
    rintro e w1 ⟨rfl, b1⟩
    have H1 := H0.out.later b1
    have t0 := H1.at 0 rfl
    have t1 := H1.at 1 rfl
    have t2 := H1.at 2 rfl
    have t3 := H1.at 3 rfl
    have t4 := H1.at 4 rfl
    have hb : Hid (Below h w w1) := hh ▸ thenB hal b1
    clear b1 hal H0 H1 C hm
    go_wp2
    all_goals (go_ret; exact ⟨ret_bool (by rw [Bool.eq_iff_iff]; first | (simp; omega) | (cases eg <;> simp <;> omega) | (cases eg <;> simp_all)), by first | exact hb.out | (rw [hh]; exact hb.out)⟩)

/-- What a call of Insert begins with: the cell, the element, the dot, room for the answer. -/
def SetI (w : World) (h : Nat) (c : Ce) (p : Pl) (e : L5) (d : D2) (w1 : World) : Prop := Below h w w1 ∧ Has w1 h (ceL c p) ∧ Has w1 (h + 1) (l5 e) ∧ Has w1 (h + 2) [.int .i64 d.1, .int .i64 d.2] ∧ Has w1 (h + 3) (ceL ce0 pl0)
theorem setI_new (w : World) (c : Ce) (p : Pl) (e : L5) (d : D2) (t1 t2 t3 t4 : TypeId) : SetI w w.heap.size c p e d ((((w.alloc (.cells (ceL c p).toArray t1)).alloc (.cells (l5 e).toArray t2)).alloc (.cells #[.int .i64 d.1, .int .i64 d.2] t3)).alloc (.cells (ceL ce0 pl0).toArray t4)) := by
  refine ⟨((((Below.refl _ _).alloc (Nat.le_refl _) _).alloc (by simp) _).alloc (by simp; omega) _).alloc (by simp; omega) _, (((has_new _ _ _).alloc _).alloc _).alloc _, ?_, ?_, ?_⟩
  · have := ((has_new (w.alloc (.cells (ceL c p).toArray t1)) (l5 e) t2).alloc (.cells #[.int .i64 d.1, .int .i64 d.2] t3)).alloc (.cells (ceL ce0 pl0).toArray t4)
    simpa using this
  · have := (has_new ((w.alloc (.cells (ceL c p).toArray t1)).alloc (.cells (l5 e).toArray t2)) [.int .i64 d.1, .int .i64 d.2] t3).alloc (.cells (ceL ce0 pl0).toArray t4)
    simpa using this
  · have := has_new (((w.alloc (.cells (ceL c p).toArray t1)).alloc (.cells (l5 e).toArray t2)).alloc (.cells #[.int .i64 d.1, .int .i64 d.2] t3)) (ceL ce0 pl0) t4
    simpa using this
theorem SetI.size {w w1 : World} {h : Nat} {c : Ce} {p : Pl} {e : L5} {d : D2} (H : SetI w h c p e d w1) : h + 4 ≤ w1.heap.size := by have := H.2.2.2.2.1; omega
theorem SetI.later {w w1 w2 : World} {h : Nat} {c : Ce} {p : Pl} {e : L5} {d : D2} (H : SetI w h c p e d w1) (hb : Below w1.heap.size w1 w2) : SetI w h c p e d w2 :=
  ⟨H.1.trans (hb.mono (by have := H.size; omega)), H.2.1.later hb, H.2.2.1.later hb, H.2.2.2.1.later hb, H.2.2.2.2.later hb⟩
/-- The element's text stored anew: the same one. -/
theorem SetI.same {w w1 : World} {h : Nat} {c : Ce} {p : Pl} {e : L5} {d : D2} (H : SetI w h c p e d w1) : SetI w h c p e d (w1.setCell ⟨h + 1, 3, none⟩ (.string e.val)) :=
  ⟨H.1.setCell (p := ⟨h + 1, 3, none⟩) (by show h ≤ h + 1; omega) _, H.2.1.other (by omega) _ _, by have := H.2.2.1.put 3 (.string e.val); exact this, H.2.2.2.1.other (by omega) _ _, H.2.2.2.2.other (by omega) _ _⟩
theorem Has.five {w : World} {g : Nat} {u0 u1 u2 u3 u4 : Value} (h : Has w g [u0, u1, u2, u3, u4]) : w.cell? ⟨g, 0, none⟩ = some u0 ∧ w.cell? ⟨g, 1, none⟩ = some u1 ∧ w.cell? ⟨g, 2, none⟩ = some u2 ∧ w.cell? ⟨g, 3, none⟩ = some u3 ∧ w.cell? ⟨g, 4, none⟩ = some u4 :=
  ⟨h.at 0 rfl, h.at 1 rfl, h.at 2 rfl, h.at 3 rfl, h.at 4 rfl⟩

set_option maxHeartbeats 1000000 in
set_option maxRecDepth 100000 in
/-- Insert refuses. -/
theorem ins_no (c : Ce) (p : Pl) (e : L5) (d : D2) (w : World) (hr : CRow w c p) (hf : Fit c) (hv : e.val.size ≤ maxLen) (hb : (decide (c.kind = 3) && okX c.elems e) = false) :
    Calls Tryz.prog 63 #[ceV c p, lv e, dv d] w fun e w' => e = .returned (.tuple #[ceV ce0 pl0, .int .i64 1000]) ∧ Below w.heap.size w w' := by
  have H0 : Hid (SetI w w.heap.size c p e d ((((w.alloc (.cells (ceL c p).toArray 30)).alloc (.cells (l5 e).toArray 59)).alloc (.cells #[.int .i64 d.1, .int .i64 d.2] 32)).alloc (.cells (ceL ce0 pl0).toArray 30))) := setI_new _ _ _ _ _ _ _ _ _
  have HR : Hid (CRow w c p ∧ Fit c) := ⟨hr, hf⟩
  have hlen : c.elems.length ≤ maxLen := by have := hf.2.1; unfold maxLen; omega
  obtain ⟨h, hh⟩ : ∃ h, w.heap.size = h := ⟨_, rfl⟩
  rw [hh] at H0 ⊢
  clear hr hf
  by_cases hk : c.kind = 3
  · have hk1 : (c.kind != 3) = false := by simpa using hk
    rw [okX_may] at hb
    have C := fun W => mayCome_any e W hv
    cases hm : mayX e with
    | false =>
      rw [hm] at C
      clear hb hk hm
      go_enter Tryz.func63, Tryz.ntmps63
      go_wp2_with fail
      refine (C _).mono ?_
      rintro e w1 ⟨rfl, b1⟩
      have H2 := H0.out.later b1
      have H2' : Hid (Below h w w1 ∧ Has w1 (h + 3) (ceL ce0 pl0)) := ⟨H2.1, H2.2.2.2.2⟩
      clear b1 H0 C H2
      obtain ⟨s0, s1, s2, s3, s4, s5, s6, s7, s8, s9⟩ := H2'.out.2.ten
      obtain ⟨z0, z1, z2, z3, z4, z5, z6, z7, z8, z9⟩ := H2'.out.2.tenf
      go_wp2_with fail
      exact rend_no (a := h + 3) (r := 6) H2'.out.1 H2'.out.2 (by omega) rfl rfl rfl rfl
    | true =>
      rw [hm] at C
      have hx : hasX c.elems (dotX e) = true := by simpa [hk, hm] using hb
      have hge : decide (0 ≤ numD c.elems (dotX e)) = true := by rw [numD_ge, hx]
      clear hb hk hm hx
      obtain ⟨en, es, et, ev, eg⟩ := e
      go_enter Tryz.func63, Tryz.ntmps63
      go_wp2_with fail
      refine (C _).mono ?_
      rintro e w1 ⟨rfl, b1⟩
      have H1 : Hid (SetI w h c p ⟨en, es, et, ev, eg⟩ d w1) := H0.out.later b1
      clear b1 H0 C
      have t8 := H1.out.2.1.at 8 rfl
      obtain ⟨r0, r1, r2, r3, r4⟩ := H1.out.2.2.1.five
      have CH := indexOf_any (en, es) p.lo p.lc c.elems w1 (HR.out.1.later (hh.symm ▸ H1.out.1)).2.1 hlen
      have hge2 : decide (0 ≤ numD c.elems (en, es)) = true := hge
      generalize numD c.elems (en, es) = nd at CH hge2
      clear hge
      go_wp2_with fail
      refine CH.mono ?_
      rintro e w2 ⟨rfl, b2⟩
      have H2 := H1.out.later b2
      have H2' : Hid (Below h w w2 ∧ Has w2 (h + 3) (ceL ce0 pl0)) := ⟨H2.1, H2.2.2.2.2⟩
      clear b2 H1 CH t8 r0 r1 r2 r3 r4 H2
      obtain ⟨s0, s1, s2, s3, s4, s5, s6, s7, s8, s9⟩ := H2'.out.2.ten
      obtain ⟨z0, z1, z2, z3, z4, z5, z6, z7, z8, z9⟩ := H2'.out.2.tenf
      go_wp2_with fail
      exact rend_no (a := h + 3) (r := 6) H2'.out.1 H2'.out.2 (by omega) rfl rfl rfl rfl
  · have hk1 : (c.kind != 3) = true := by simpa using hk
    go_enter Tryz.func63, Tryz.ntmps63
    go_wp2_with fail
    exact bodyPost_ret (ret_cell2 rfl rfl rfl H0.out.2.2.2.2) rfl ⟨rfl, H0.out.1⟩

/-- What Insert has made ahead of the insertion: the copy in block k8. -/
structure FixI (w w3 w5 : World) (h k8 B : Nat) (c : Ce) (p q : Pl) (e : L5) (d : D2) : Prop where
  st : SetI w h c p e d w5
  h8 : Has w5 k8 (ceL c q)
  pt : PartsL B w5 c q
  p3 : PartsL B w3 c q
  sz : w3.heap.size = k8
  own : ∀ g, (Value.slice q.lo c.elems.length q.lc).ownBlock = some g → g < k8 ∧ B ≤ g
  h4 : h + 4 ≤ B
  hB : B ≤ k8
  big : (c.elems.length + 1) * 48 ≤ 140737488355328

/-- What the insertion leaves. -/
def AftI (w w7 : World) (h k8 : Nat) (c : Ce) (q : Pl) (L : List L5) (bo : Option Addr) (cb : Nat) : Prop :=
  Below h w w7 ∧ Has w7 (h + 3) (ceL ce0 pl0) ∧ Has w7 k8 (ceL c q) ∧ (∀ u, COwn (h + 4) (w7.setCell ⟨k8, 8, none⟩ u) (cL c L) ⟨q.eo, q.ec, bo, cb, q.so, q.sc⟩)

section
variable {w w3 w5 W : World} {h k8 B : Nat} {c : Ce} {p q : Pl} {e : L5} {d : D2}

/-- What the region keeps till the insertion. -/
abbrev HeldI (w5 : World) (h k8 : Nat) (c : Ce) (q : Pl) (e : L5) (W : World) : Prop :=
  Hid (Below w5.heap.size w5 W) ∧ W.cell? ⟨k8, 8, none⟩ = some (.slice q.lo c.elems.length q.lc) ∧ W.cell? ⟨h + 1, 0, none⟩ = some (.int .i64 e.node) ∧ W.cell? ⟨h + 1, 1, none⟩ = some (.int .i64 e.seq) ∧ W.cell? ⟨h + 1, 2, none⟩ = some (.int .i64 e.time) ∧ W.cell? ⟨h + 1, 3, none⟩ = some (.string e.val) ∧ W.cell? ⟨h + 1, 4, none⟩ = some (.bool e.gone)
theorem heldI_of (F : FixI w w3 w5 h k8 B c p q e d) (hb : Below w5.heap.size w5 W) : HeldI w5 h k8 c q e W := by
  have h1 := (F.st.2.2.1.later hb).five
  exact ⟨hb, (F.h8.later hb).at 8 rfl, h1.1, h1.2.1, h1.2.2.1, h1.2.2.2.1, h1.2.2.2.2⟩
theorem place_fixI (F : FixI w w3 w5 h k8 B c p q e d) (W : World) (hb : Below w5.heap.size w5 W) {k0 : Nat} (hk : behindL c.elems d = some k0) :
    Calls Tryz.prog 116 #[.slice q.lo c.elems.length q.lc, lv e, .int .i64 (k0 : Nat)] W fun r w' => r = .returned (.int .i64 ((k0 + pastL e.time e.node (c.elems.drop k0) : Nat) : Int)) ∧ Below W.heap.size W w' :=
  placeOfX_any e k0 q.lo q.lc c.elems W ((own_row F.pt.1).row.later hb) (by have := F.big; unfold maxLen; omega) (behind_le hk)
theorem ins_fixI (F : FixI w w3 w5 h k8 B c p q e d) (W : World) (hb : Below w5.heap.size w5 W) (vb : Nat) (hv : W.ownsRow w5.heap.size 59 5 (.slice (some ⟨vb, 0, none⟩) 1 1) 1 (l5 e)) {k0 : Nat} (hk : behindL c.elems d = some k0) :
    Calls Tryz.prog 115 #[.slice q.lo c.elems.length q.lc, .int .i64 ((k0 + pastL e.time e.node (c.elems.drop k0) : Nat) : Int), .slice (some ⟨vb, 0, none⟩) 1 1] W fun r w' => ∃ bo cb, r = .returned (.slice bo (c.elems.length + 1) cb) ∧ Hid (AftI w w' h k8 c q (putX c.elems (k0 + pastL e.time e.node (c.elems.drop k0)) e) bo cb) ∧ w'.cell? ⟨k8, 8, none⟩ = some (.slice q.lo c.elems.length q.lc) ∧ w'.frozen? ⟨k8, 8, none⟩ = false := by
  have hB5 : B ≤ w5.heap.size := by have := F.h8.1; have := F.hB; omega
  have hw5 : k8 < w5.heap.size := F.h8.1
  have hsz := hb.size
  have hvb := hv.lt vb rfl
  have hown := F.own
  have h4B := F.h4
  have hB8 := F.hB
  have hne : q.lo ≠ some ⟨vb, 0, none⟩ := fun e => by
    have := hown vb (by rw [e]; rfl)
    omega
  refine Calls.mono (insertL_any B (k0 + pastL e.time e.node (c.elems.drop k0)) q.lo q.lc c.elems e vb W (own_later F.pt.1 hb) (own_mono hv (by omega)) hne (by omega) F.big (insK_le hk)) ?_
  rintro r w7 ⟨bo, cb, rfl, o7, g7, f7⟩
  have hn : ∀ g, g < B ∨ k8 ≤ g → some g ≠ (Value.slice q.lo c.elems.length q.lc).ownBlock := fun g hg e => by
    have := hown g e.symm
    omega
  have h8 := gb_has g7 (F.h8.later hb) (hn _ (Or.inr (Nat.le_refl _)))
  have ha := gb_has g7 (F.st.2.2.2.2.later hb) (hn _ (Or.inl (by omega)))
  have hbel : Below h w w7 := (F.st.1.trans (hb.mono (by omega))).trans (gb_to g7 (by omega) fun k hk => by have := hown k hk; omega)
  have hbo : ∀ b, bo = some ⟨b, 0, none⟩ → b ≠ k8 := fun b hbb e => by
    rcases f7 b hbb with e2 | e2
    · have := hown b e2; omega
    · omega
  have hP : PartsL B W c q := F.pt.later hb
  have P3 := F.p3
  have hk3 := F.sz
  exact ⟨bo, cb, rfl, ⟨hbel, ha, h8, fun u => ⟨(fown_young P3.2.1 (by omega) (gb_apart g7 hP.2.2.2.1 hP.2.1) u).mono (by omega), (fown_apart o7 hbo u).mono (by omega), (fown_young P3.2.2.1 (by omega) (gb_apart g7 hP.2.2.2.2 hP.2.2.1) u).mono (by omega)⟩⟩, h8.at 8 rfl, h8.free 8 rfl⟩
theorem aftI_cut {w7 : World} {L : List L5} {bo : Option Addr} {cb : Nat} {L' : List L5} (A : AftI w w7 h k8 c q L' bo cb) (hL : L' = L) (hl : L.length = c.elems.length + 1) (h8 : h + 4 ≤ k8) :
    ∃ bo' cb', Below h w (w7.setCell ⟨k8, 8, none⟩ (.slice bo (c.elems.length + 1) cb)) ∧ Has (w7.setCell ⟨k8, 8, none⟩ (.slice bo (c.elems.length + 1) cb)) (h + 3) (ceL ce0 pl0) ∧ Has (w7.setCell ⟨k8, 8, none⟩ (.slice bo (c.elems.length + 1) cb)) k8 (ceL (cL c L) ⟨q.eo, q.ec, bo', cb', q.so, q.sc⟩) ∧ COwn (h + 4) (w7.setCell ⟨k8, 8, none⟩ (.slice bo (c.elems.length + 1) cb)) (cL c L) ⟨q.eo, q.ec, bo', cb', q.so, q.sc⟩ := by
  subst hL
  refine ⟨bo, cb, A.1.setCell (p := ⟨k8, 8, none⟩) (by show h ≤ k8; omega) _, A.2.1.other (by omega) _ _, ?_, A.2.2.2 _⟩
  have := A.2.2.1.put 8 (.slice bo (c.elems.length + 1) cb)
  rw [← hl] at this ⊢
  exact this
theorem oneL_new (W : World) {C : Nat} (hC : C ≤ W.heap.size) (e : L5) : (W.alloc (.cells (l5 e).toArray 59)).ownsRow C 59 5 (.slice (some ⟨W.heap.size, 0, none⟩) 1 1) 1 (l5 e) := by
  simpa using World.ownsRow_lit W (l5 e).toArray 1 (base := C) (e := 59) (size := 5) hC (by decide) rfl
end

set_option maxHeartbeats 1000000 in
set_option maxRecDepth 100000 in
/-- Insert finds no such place. -/
theorem ins_range (c : Ce) (p : Pl) (e : L5) (d : D2) (w : World) (hr : CRow w c p) (hf : Fit c) (hk : c.kind = 3) (hb : okX c.elems e = true) (hn : behindL c.elems d = none) :
    Calls Tryz.prog 63 #[ceV c p, lv e, dv d] w fun e w' => e = .returned (.tuple #[ceV ce0 pl0, .int .i64 1001]) ∧ Below w.heap.size w w' := by
  have H0 : Hid (SetI w w.heap.size c p e d ((((w.alloc (.cells (ceL c p).toArray 30)).alloc (.cells (l5 e).toArray 59)).alloc (.cells #[.int .i64 d.1, .int .i64 d.2] 32)).alloc (.cells (ceL ce0 pl0).toArray 30))) := setI_new _ _ _ _ _ _ _ _ _
  have HR : Hid (CRow w c p ∧ Fit c) := ⟨hr, hf⟩
  have hlen : c.elems.length ≤ maxLen := by have := hf.2.1; unfold maxLen; omega
  obtain ⟨h, hh⟩ : ∃ h, w.heap.size = h := ⟨_, rfl⟩
  rw [hh] at H0 ⊢
  clear hr hf
  have hk1 : (c.kind != 3) = false := by simpa using hk
  rw [okX_may] at hb
  simp only [Bool.and_eq_true, Bool.not_eq_true'] at hb
  obtain ⟨hm, hx⟩ := hb
  have hv : e.val.size ≤ maxLen := by
    unfold mayX at hm
    simp at hm
    unfold maxLen
    omega
  have C := fun W => mayCome_any e W hv
  rw [hm] at C
  have hge : decide (0 ≤ numD c.elems (dotX e)) = false := by rw [numD_ge, hx]
  have hbn : behindN c.elems d = 0 := by unfold behindN; rw [hn]; rfl
  have CB := fun W hr => behind_any d p.lo p.lc c.elems W hr hlen
  rw [hn, hbn] at CB
  clear hk hm hx hn hbn
  obtain ⟨en, es, et, ev, eg⟩ := e
  go_enter Tryz.func63, Tryz.ntmps63
  go_wp2_with fail
  refine (C _).mono ?_
  rintro e w1 ⟨rfl, b1⟩
  have H1 : Hid (SetI w h c p ⟨en, es, et, ev, eg⟩ d w1) := H0.out.later b1
  clear b1 H0 C
  have t8 := H1.out.2.1.at 8 rfl
  obtain ⟨r0, r1, r2, r3, r4⟩ := H1.out.2.2.1.five
  have CH := indexOf_any (en, es) p.lo p.lc c.elems w1 (HR.out.1.later (hh.symm ▸ H1.out.1)).2.1 hlen
  have hge2 : decide (0 ≤ numD c.elems (en, es)) = false := hge
  generalize numD c.elems (en, es) = nd at CH hge2
  clear hge
  go_wp2_with fail
  refine CH.mono ?_
  rintro e w2 ⟨rfl, b2⟩
  have H2 : Hid (SetI w h c p ⟨en, es, et, ev, eg⟩ d w2) := H1.out.later b2
  clear b2 H1 CH t8 r0 r1 r2 r3 r4
  have t8 := H2.out.2.1.at 8 rfl
  obtain ⟨r0, r1⟩ := H2.out.2.2.2.1.two
  go_wp2_with fail
  refine (CB w2 (HR.out.1.later (hh.symm ▸ H2.out.1)).2.1).mono ?_
  rintro e w3 ⟨rfl, b3⟩
  have H3 := H2.out.later b3
  have H3' : Hid (Below h w w3 ∧ Has w3 (h + 3) (ceL ce0 pl0)) := ⟨H3.1, H3.2.2.2.2⟩
  clear b3 H2 CB t8 r0 r1 H3
  obtain ⟨s0, s1, s2, s3, s4, s5, s6, s7, s8, s9⟩ := H3'.out.2.ten
  obtain ⟨z0, z1, z2, z3, z4, z5, z6, z7, z8, z9⟩ := H3'.out.2.tenf
  go_wp2_with fail
  exact rend_no (a := h + 3) (r := 6) H3'.out.1 H3'.out.2 (by omega) rfl rfl rfl rfl

set_option maxHeartbeats 4000000 in
set_option maxRecDepth 100000 in
/-- Insert takes it. -/
theorem ins_yes (c : Ce) (p : Pl) (e : L5) (d : D2) (L : List L5) (w : World) (hr : CRow w c p) (hf : Fit c) (hk : c.kind = 3) (hb : okX c.elems e = true) (hi : insL c.elems e d = some L) :
    Calls Tryz.prog 63 #[ceV c p, lv e, dv d] w fun r w' => ∃ q, r = .returned (.tuple #[ceV (cL c L) q, .int .i64 0]) ∧ COwn w.heap.size w' (cL c L) q ∧ Below w.heap.size w w' := by
  have H0 : Hid (SetI w w.heap.size c p e d ((((w.alloc (.cells (ceL c p).toArray 30)).alloc (.cells (l5 e).toArray 59)).alloc (.cells #[.int .i64 d.1, .int .i64 d.2] 32)).alloc (.cells (ceL ce0 pl0).toArray 30))) := setI_new _ _ _ _ _ _ _ _ _
  have hlen : c.elems.length ≤ maxLen := by have := hf.2.1; unfold maxLen; omega
  obtain ⟨h, hh⟩ : ∃ h, w.heap.size = h := ⟨_, rfl⟩
  rw [hh] at H0 ⊢
  have HR : Hid (CRow w c p ∧ Fit c ∧ w.heap.size = h) := ⟨hr, hf, hh⟩
  clear hr hf
  have hk1 : (c.kind != 3) = false := by simpa using hk
  rw [okX_may] at hb
  simp only [Bool.and_eq_true, Bool.not_eq_true'] at hb
  obtain ⟨hm, hx⟩ := hb
  have hv : e.val.size ≤ 256 := by
    unfold mayX at hm
    simp at hm
    omega
  have C := fun W => mayCome_any e W (by unfold maxLen; omega)
  rw [hm] at C
  have hge : decide (0 ≤ numD c.elems (dotX e)) = false := by rw [numD_ge, hx]
  have hlL := insL_len hi
  obtain ⟨k0, hk0, hL0⟩ := Option.map_eq_some_iff.1 hi
  have hbn : behindN c.elems d = k0 := by unfold behindN; rw [hk0]; rfl
  have CB := fun W hr => behind_any d p.lo p.lc c.elems W hr hlen
  rw [hbn, hk0] at CB
  have HL : Hid (putX c.elems (k0 + pastL e.time e.node (c.elems.drop k0)) e = L ∧ L.length = c.elems.length + 1) := ⟨hL0, hlL⟩
  have HK : Hid (behindL c.elems d = some k0) := hk0
  clear hk hm hx hbn hi hL0 hlL hk0
  obtain ⟨en, es, et, ev, eg⟩ := e
  simp only at HL hv
  go_enter Tryz.func63, Tryz.ntmps63
  go_wp2_with fail
  refine (C _).mono ?_
  rintro e w1 ⟨rfl, b1⟩
  have H1 : Hid (SetI w h c p ⟨en, es, et, ev, eg⟩ d w1) := H0.out.later b1
  clear b1 H0 C
  have t8 := H1.out.2.1.at 8 rfl
  obtain ⟨r0, r1, r2, r3, r4⟩ := H1.out.2.2.1.five
  have CH := indexOf_any (en, es) p.lo p.lc c.elems w1 (HR.out.1.later (hh.symm ▸ H1.out.1)).2.1 hlen
  have hge2 : decide (0 ≤ numD c.elems (en, es)) = false := hge
  generalize numD c.elems (en, es) = nd at CH hge2
  clear hge
  go_wp2_with fail
  refine CH.mono ?_
  rintro e w2 ⟨rfl, b2⟩
  have H2 : Hid (SetI w h c p ⟨en, es, et, ev, eg⟩ d w2) := H1.out.later b2
  clear b2 H1 CH t8 r0 r1 r2 r3 r4
  have t8 := H2.out.2.1.at 8 rfl
  obtain ⟨r0, r1⟩ := H2.out.2.2.2.1.two
  go_wp2_with fail
  refine (CB w2 (HR.out.1.later (hh.symm ▸ H2.out.1)).2.1).mono ?_
  rintro e u2 ⟨rfl, b3⟩
  have H3 : Hid (SetI w h c p ⟨en, es, et, ev, eg⟩ d u2) := H2.out.later b3
  clear b3 H2 CB t8 r0 r1
  obtain ⟨B, hB⟩ : ∃ B, u2.heap.size = B := ⟨_, rfl⟩
  have hB3 : h + 4 ≤ B := by have := H3.out.size; omega
  obtain ⟨t0, t1, t2, t3, t4, t5, t6, t7, t8, t9⟩ := H3.out.2.1.ten
  go_wp2_with fail
  refine (fcellL_any c p _ (HR.out.1.later (HR.out.2.2.symm ▸ H3.out.1)) HR.out.2.1).mono ?_
  rintro e w3 ⟨q, rfl, P3, b3⟩
  rw [hB] at P3 b3
  obtain ⟨k8, hk8⟩ : ∃ k, w3.heap.size = k := ⟨_, rfl⟩
  have hal : Below w3.heap.size w3 (w3.alloc (.cells (ceL c q).toArray 30)) := (Below.refl _ _).alloc (Nat.le_refl _) _
  have hk8B : B ≤ k8 := by have := b3.size; omega
  have HF0 : Hid (FixI w w3 (w3.alloc (.cells (ceL c q).toArray 30)) h k8 B c p q ⟨en, es, et, ev, eg⟩ d) :=
    ⟨(H3.out.later (hB.symm ▸ b3)).later hal, hk8 ▸ has_new w3 (ceL c q) _, P3.later hal, P3, hk8, fun g hg => ⟨hk8 ▸ (P3.1.lt g hg).2, (P3.1.lt g hg).1⟩, hB3, hk8B, by have := HR.out.2.1.2.1; omega⟩
  clear P3 b3 hal t0 t1 t2 t3 t4 t5 t6 t7 t8 t9 H3
  go_upto_region 7 with fail
  generalize hW : w3.alloc (.cells (ceL c q).toArray 30) = w4 at HF0 ⊢
  clear hW hB hk8
  have r3 := HF0.out.st.2.2.1.at 3 rfl
  have y3 := HF0.out.st.2.2.1.free 3 rfl
  simp only at r3
  go_wp2_with fail
  refine (clone_any ev _ (by omega)).mono ?_
  rintro e w44 ⟨rfl, b4⟩
  have HF1 : Hid (FixI w w3 w44 h k8 B c p q ⟨en, es, et, ev, eg⟩ d) := by
    have F := HF0.out
    exact ⟨F.st.later b4, F.h8.later b4, F.pt.later b4, F.p3, F.sz, F.own, F.h4, F.hB, F.big⟩
  clear HF0 b4 r3 y3
  have r3 := HF1.out.st.2.2.1.at 3 rfl
  have y3 := HF1.out.st.2.2.1.free 3 rfl
  simp only at r3
  have HF2 : Hid (FixI w w3 (w44.setCell ⟨h + 1, 3, none⟩ (.string ev)) h k8 B c p q ⟨en, es, et, ev, eg⟩ d) := by
    have F := HF1.out
    have hh4 := F.h4
    have hh8 := F.hB
    exact ⟨F.st.same, F.h8.other (by omega) _ _, ⟨ownsRow_setCell_below F.pt.1 (a := ⟨h + 1, 3, none⟩) (by show h + 1 < B; omega) _, F.pt.2.1.off (by omega) _ _, F.pt.2.2.1.off (by omega) _ _, F.pt.2.2.2⟩, F.p3, F.sz, F.own, F.h4, F.hB, F.big⟩
  clear HF1
  go_upto_region 8 with fail
  generalize hW : w44.setCell ⟨h + 1, 3, none⟩ (.string ev) = w5 at HF2 ⊢
  clear hW r3 y3
  have HF : Hid (FixI w w3 w5 h k8 B c p q ⟨en, es, et, ev, eg⟩ d) := HF2.out
  have h48 : h + 4 ≤ k8 := by omega
  have hkb := HK.out
  clear HF2 HK
  go_cut [10] from 11 to 55 (fun r wx => r = .pointer (some ⟨k8, 0, none⟩) ∧ Hid (∃ bo cb, Below h w wx ∧ Has wx (h + 3) (ceL ce0 pl0) ∧ Has wx k8 (ceL (cL c L) ⟨q.eo, q.ec, bo, cb, q.so, q.sc⟩) ∧ COwn (h + 4) wx (cL c L) ⟨q.eo, q.ec, bo, cb, q.so, q.sc⟩))
  case first =>
    refine wp_region_till (HeldI w5 h k8 c q ⟨en, es, et, ev, eg⟩) 9 (by kernel_rfl) (fun hcl => ?_)
    have hHeld : HeldI w5 h k8 c q ⟨en, es, et, ev, eg⟩ w5.drew := heldI_of HF.out (Below.refl _ _).drew
    refine takeT 0 44 (v := .pointer (some ⟨k8, 8, none⟩)) rfl (by kernel_rfl) (by kernel_rfl) (by kernel_rfl) (fun _ _ _ h => h) (Waits.trans (waits_one (i := 1) (by kernel_rfl)) (waits_one (i := 0) (by kernel_rfl))) (by decide) hcl rfl (by rfl) (fun w hSw => ?hy) hHeld (fun hcl => ?_)
    case hy =>
      try dsimp only at hSw
      go_simp
    simp only [List.set_cons_zero, List.set_cons_succ]
    refine takeT 1 45 (v := .slice q.lo c.elems.length q.lc) rfl (by kernel_rfl) (by kernel_rfl) (by kernel_rfl) (fun _ _ _ h => h) (waits_one (i := 1) (by kernel_rfl)) (by decide) hcl rfl (by rfl) (fun w hSw => ?hy) hHeld (fun hcl => ?_)
    case hy =>
      try dsimp only at hSw
      go_simp
    simp only [List.set_cons_zero, List.set_cons_succ]
    refine takeT 2 46 (v := .pointer (some ⟨k8, 8, none⟩)) rfl (by kernel_rfl) (by kernel_rfl) (by kernel_rfl) (fun _ _ _ h => h) (Waits.trans (Waits.trans (waits_one (i := 6) (by kernel_rfl)) (waits_one (i := 3) (by kernel_rfl))) (waits_one (i := 2) (by kernel_rfl))) (by decide) hcl rfl (by rfl) (fun w hSw => ?hy) hHeld (fun hcl => ?_)
    case hy =>
      try dsimp only at hSw
      go_simp
    simp only [List.set_cons_zero, List.set_cons_succ]
    refine takeT 3 47 (v := .slice q.lo c.elems.length q.lc) rfl (by kernel_rfl) (by kernel_rfl) (by kernel_rfl) (fun _ _ _ h => h) (Waits.trans (waits_one (i := 6) (by kernel_rfl)) (waits_one (i := 3) (by kernel_rfl))) (by decide) hcl rfl (by rfl) (fun w hSw => ?hy) hHeld (fun hcl => ?_)
    case hy =>
      try dsimp only at hSw
      go_simp
    simp only [List.set_cons_zero, List.set_cons_succ]
    refine takeT 4 48 (v := .agg #[.int .i64 en, .int .i64 es, .int .i64 et, .string ev, .bool eg]) rfl (by kernel_rfl) (by kernel_rfl) (by kernel_rfl) (fun _ _ _ h => h) (Waits.trans (waits_one (i := 6) (by kernel_rfl)) (waits_one (i := 4) (by kernel_rfl))) (by decide) hcl rfl (by rfl) (fun w hSw => ?hy) hHeld (fun hcl => ?_)
    case hy =>
      try dsimp only at hSw
      go_simp
    simp only [List.set_cons_zero, List.set_cons_succ]
    refine takeT 5 49 (v := .int .i64 (k0 : Nat)) rfl (by kernel_rfl) (by kernel_rfl) (by kernel_rfl) (fun _ _ _ h => h) (Waits.trans (waits_one (i := 6) (by kernel_rfl)) (waits_one (i := 5) (by kernel_rfl))) (by decide) hcl rfl (by rfl) (fun w hSw => ?hy) hHeld (fun hcl => ?_)
    case hy =>
      try dsimp only at hSw
      go_simp
    simp only [List.set_cons_zero, List.set_cons_succ]
    refine takeT 7 51 (v := .agg #[.int .i64 en, .int .i64 es, .int .i64 et, .string ev, .bool eg]) rfl (by kernel_rfl) (by kernel_rfl) (by kernel_rfl) (fun _ _ _ h => h) (Waits.trans (waits_one (i := 8) (by kernel_rfl)) (waits_one (i := 7) (by kernel_rfl))) (by decide) hcl rfl (by rfl) (fun w hSw => ?hy) hHeld (fun hcl => ?_)
    case hy =>
      try dsimp only at hSw
      go_simp
    simp only [List.set_cons_zero, List.set_cons_succ]
    refine readyT (rs := [6, 8]) (by kernel_rfl) (by simp) ?_
    refine AllT.cons rfl (fun K hK => ?_) (AllT.cons rfl (fun K hK => ?_) AllT.nil)
    · go_simp
      refine (place_fixI HF.out _ hHeld.1 hkb).mono ?_
      rintro e w6 ⟨rfl, b6⟩
      have B6 : Hid (Below w5.heap.size w5 w6) := thenB hHeld.1 b6
      first | go_simp | skip
      refine hK.out _ _ (heldI_of HF.out B6.out) ?_
      clear hK K
      try simp only [Act.put, List.setIfInBounds_toArray, List.set_cons_zero, List.set_cons_succ]
      refine readyT (rs := [8]) (by kernel_rfl) (by simp) ?_
      refine AllT.cons rfl (fun K hK => ?_) AllT.nil
      go_simp
      have HB : Hid (Below w5.heap.size w5 (w6.alloc (.cells (l5 ⟨en, es, et, ev, eg⟩).toArray 59))) := thenB B6.out ((Below.refl _ _).alloc (Nat.le_refl _) _)
      have HO : Hid ((w6.alloc (.cells (l5 ⟨en, es, et, ev, eg⟩).toArray 59)).ownsRow w5.heap.size 59 5 (.slice (some ⟨w6.heap.size, 0, none⟩) 1 1) 1 (l5 ⟨en, es, et, ev, eg⟩)) := oneL_new w6 B6.out.size _
      refine hK.out _ _ (heldI_of HF.out HB.out) ?_
      clear hK K
      try simp only [Act.put, List.setIfInBounds_toArray, List.set_cons_zero, List.set_cons_succ]
      refine readyT (rs := [9]) (by kernel_rfl) (by simp) ?_
      refine AllT.late rfl (by kernel_rfl) (fun K hK => ?_) AllT.nil
      go_simp
      refine (ins_fixI HF.out _ HB.out _ HO.out hkb).mono ?_
      rintro e w7 ⟨bo, cb, rfl, HA, c8, f8⟩
      first | go_simp | skip
      refine hK.out _ _ ?_
      clear hK K
      try simp only [Act.put, List.setIfInBounds_toArray, List.set_cons_zero, List.set_cons_succ]
      refine readyT (rs := [10]) (by kernel_rfl) (by simp) ?_
      refine AllT.late rfl (by kernel_rfl) (fun K hK => ?_) AllT.nil
      go_simp
      refine hK.out _ _ ?_
      clear hK K
      try simp only [Act.put, List.setIfInBounds_toArray, List.set_cons_zero, List.set_cons_succ]
      refine readyT (rs := [11]) (by kernel_rfl) (by simp) ?_
      refine AllT.late rfl (by kernel_rfl) (fun K hK => ?_) AllT.nil
      go_simp
      refine hK.out _ _ ?_
      clear hK K
      try simp only [Act.put, List.setIfInBounds_toArray, List.set_cons_zero, List.set_cons_succ]
      refine doneT (by kernel_rfl) ?_ _
      go_wp2_with fail
      go_meet
      case rel => exact ⟨rfl, aftI_cut HA.out HL.out.1 HL.out.2 h48⟩
    · go_simp
      have B6 : Hid (Below w5.heap.size w5 (w5.alloc (.cells (l5 ⟨en, es, et, ev, eg⟩).toArray 59)).drew) := ((Below.refl _ _).alloc (Nat.le_refl _) _).drew
      have O6 : Hid ((w5.alloc (.cells (l5 ⟨en, es, et, ev, eg⟩).toArray 59)).drew.ownsRow w5.heap.size 59 5 (.slice (some ⟨w5.heap.size, 0, none⟩) 1 1) 1 (l5 ⟨en, es, et, ev, eg⟩)) := oneL_new w5 (Nat.le_refl _) _
      refine hK.out _ _ (heldI_of HF.out B6.out) ?_
      clear hK K
      try simp only [Act.put, List.setIfInBounds_toArray, List.set_cons_zero, List.set_cons_succ]
      refine readyT (rs := [6]) (by kernel_rfl) (by simp) ?_
      refine AllT.cons rfl (fun K hK => ?_) AllT.nil
      go_simp
      refine (place_fixI HF.out _ B6.out hkb).mono ?_
      rintro e w6 ⟨rfl, b6⟩
      have HB : Hid (Below w5.heap.size w5 w6) := thenB B6.out b6
      have HO : Hid (w6.ownsRow w5.heap.size 59 5 (.slice (some ⟨w5.heap.size, 0, none⟩) 1 1) 1 (l5 ⟨en, es, et, ev, eg⟩)) := own_later O6.out b6
      first | go_simp | skip
      refine hK.out _ _ (heldI_of HF.out HB.out) ?_
      clear hK K
      try simp only [Act.put, List.setIfInBounds_toArray, List.set_cons_zero, List.set_cons_succ]
      refine readyT (rs := [9]) (by kernel_rfl) (by simp) ?_
      refine AllT.late rfl (by kernel_rfl) (fun K hK => ?_) AllT.nil
      go_simp
      refine (ins_fixI HF.out _ HB.out _ HO.out hkb).mono ?_
      rintro e w7 ⟨bo, cb, rfl, HA, c8, f8⟩
      first | go_simp | skip
      refine hK.out _ _ ?_
      clear hK K
      try simp only [Act.put, List.setIfInBounds_toArray, List.set_cons_zero, List.set_cons_succ]
      refine readyT (rs := [10]) (by kernel_rfl) (by simp) ?_
      refine AllT.late rfl (by kernel_rfl) (fun K hK => ?_) AllT.nil
      go_simp
      refine hK.out _ _ ?_
      clear hK K
      try simp only [Act.put, List.setIfInBounds_toArray, List.set_cons_zero, List.set_cons_succ]
      refine readyT (rs := [11]) (by kernel_rfl) (by simp) ?_
      refine AllT.late rfl (by kernel_rfl) (fun K hK => ?_) AllT.nil
      go_simp
      refine hK.out _ _ ?_
      clear hK K
      try simp only [Act.put, List.setIfInBounds_toArray, List.set_cons_zero, List.set_cons_succ]
      refine doneT (by kernel_rfl) ?_ _
      go_wp2_with fail
      go_meet
      case rel => exact ⟨rfl, aftI_cut HA.out HL.out.1 HL.out.2 h48⟩
  case rest =>
    obtain ⟨w8, rfl⟩ : ∃ z, z = wc := ⟨_, rfl⟩
    obtain ⟨rfl, HQ⟩ := hcut
    obtain ⟨bo, cb, q1, q2, q3, q4⟩ := HQ.out
    have HZ : Hid (Below h w w8 ∧ Has w8 (h + 3) (ceL ce0 pl0) ∧ COwn (h + 4) w8 (cL c L) ⟨q.eo, q.ec, bo, cb, q.so, q.sc⟩) := ⟨q1, q2, q4⟩
    clear HQ HF q1 q4
    obtain ⟨t0, t1, t2, t3, t4, t5, t6, t7, t8, t9⟩ := q3.ten
    obtain ⟨s0, s1, s2, s3, s4, s5, s6, s7, s8, s9⟩ := q2.ten
    obtain ⟨z0, z1, z2, z3, z4, z5, z6, z7, z8, z9⟩ := q2.tenf
    clear q2 q3
    go_wp2_with fail
    exact rend (d := cL c L) (q := ⟨q.eo, q.ec, bo, cb, q.so, q.sc⟩) (a := h + 3) (B := h + 4) (r := 6) HZ.out.1 HZ.out.2.1 HZ.out.2.2 (by omega) (by omega) rfl rfl rfl rfl

end Go.Proofs.YtgkddimijmnpcaaGreatDoor

