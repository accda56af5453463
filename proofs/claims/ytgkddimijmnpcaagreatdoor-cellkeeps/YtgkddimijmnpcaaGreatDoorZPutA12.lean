/-
  orset.Put: the answer's Seen lies apart.
-/
import Derived.Test.YtgkddimijmnpcaaGreatDoorZPut9
import Derived.Test.YtgkddimijmnpcaaGreatDoorZRefC10
namespace Go.Proofs.YtgkddimijmnpcaaGreatDoor
open Go.RowKit Go.Shelf
set_option linter.unusedVariables false
set_option linter.unusedSimpArgs false

/-- Seen's row is not the entries'. -/
def SEo (p : Pl) (c : Ce) : Prop := ∀ g, p.so = some ⟨g, 0, none⟩ → 0 < c.ents.length → 0 < c.seen.length → p.eo ≠ some ⟨g, 0, none⟩
/-- The rows are a call's own, and lie apart. -/
def COwnE (B : Nat) (w : World) (c : Ce) (p : Pl) : Prop := COwn B w c p ∧ SEo p c
theorem COwnE.mono {B C : Nat} {w : World} {c : Ce} {p : Pl} (h : COwnE B w c p) (hC : C ≤ B) : COwnE C w c p := ⟨h.1.mono hC, h.2⟩
theorem put_endA {fn : Func} {act : Act} {w W : World} {h : Nat} {d : Ce} {q : Pl} (hB : Below h w W) (HA : Has W (h + 2) (ceL ce0 pl0)) (HO : COwnE (h + 3) W d q) (hr : fn.results = #[.cell 6 30, .tmp 7]) (h6 : act.tmps[6]? = some (.pointer (some ⟨h + 2, 0, none⟩))) (h7 : act.tmps[7]? = some (.int .i64 0)) (hd : act.defers = []) :
    bodyPost Tryz.prog fn (fun e w' => ∃ q, e = .returned (.tuple #[ceV d q, .int .i64 0]) ∧ COwnE h w' d q ∧ Below h w w') Exit.ret act (put10 W (h + 2) (.int .i64 d.kind) (.bool d.set) (.int .i64 d.time) (.int .i64 d.node) (.string d.val) (.int .i64 d.re) (.int .i64 d.im) (.slice q.eo d.ents.length q.ec) (.slice q.lo d.elems.length q.lc) (.slice q.so d.seen.length q.sc)) :=
  bodyPost_ret (ret_cell2 hr h6 h7 (HA.put10 _ _ _ _ _ _ _ _ _ _)) hd ⟨q, rfl, ⟨(HO.1.put10 (by omega) _ _ _ _ _ _ _ _ _ _).mono (by omega), HO.2⟩, below_put10 hB (by omega) _ _ _ _ _ _ _ _ _ _⟩
theorem drop_endA {fn : Func} {act : Act} {w W : World} {h : Nat} {d : Ce} {q : Pl} {r4 : Nat} (hB : Below h w W) (HA : Has W (h + 1) (ceL ce0 pl0)) (HO : COwnE (h + 2) W d q) (hr : fn.results = #[.cell r4 30, .tmp (r4 + 1)]) (h6 : act.tmps[r4]? = some (.pointer (some ⟨h + 1, 0, none⟩))) (h7 : act.tmps[r4 + 1]? = some (.int .i64 0)) (hd : act.defers = []) :
    bodyPost Tryz.prog fn (fun e w' => ∃ q, e = .returned (.tuple #[ceV d q, .int .i64 0]) ∧ COwnE h w' d q ∧ Below h w w') Exit.ret act (put10 W (h + 1) (.int .i64 d.kind) (.bool d.set) (.int .i64 d.time) (.int .i64 d.node) (.string d.val) (.int .i64 d.re) (.int .i64 d.im) (.slice q.eo d.ents.length q.ec) (.slice q.lo d.elems.length q.lc) (.slice q.so d.seen.length q.sc)) :=
  bodyPost_ret (ret_cell2 hr h6 h7 (HA.put10 _ _ _ _ _ _ _ _ _ _)) hd ⟨q, rfl, ⟨(HO.1.put10 (by omega) _ _ _ _ _ _ _ _ _ _).mono (by omega), HO.2⟩, below_put10 hB (by omega) _ _ _ _ _ _ _ _ _ _⟩

/-- What the insertion leaves. -/
def AftA (w w7 : World) (h k8 : Nat) (c : Ce) (q : Pl) (L : List E3) (bo : Option Addr) (cb : Nat) : Prop :=
  Below h w w7 ∧ Has w7 (h + 2) (ceL ce0 pl0) ∧ Has w7 k8 (ceL c q) ∧ (∀ u, COwnE (h + 3) (w7.setCell ⟨k8, 7, none⟩ u) (cE c L) ⟨bo, cb, q.lo, q.lc, q.so, q.sc⟩)

section
variable {w w3 w5 W : World} {h k8 k9 B mid : Nat} {c : Ce} {p q : Pl} {d : D2} {v : ByteArray}
theorem ins_fixA (F : Fix w w3 w5 h k8 k9 B mid c p q d v) (W : World) (hb : Below w5.heap.size w5 W) (vb : Nat) (hv : W.ownsRow w5.heap.size 62 3 (.slice (some ⟨vb, 0, none⟩) 1 1) 1 [.int .i64 d.1, .int .i64 d.2, .string v]) :
    Calls Tryz.prog 105 #[.slice q.eo c.ents.length q.ec, .int .i64 (placeD c.ents d : Nat), .slice (some ⟨vb, 0, none⟩) 1 1] W fun e w' => ∃ bo cb, e = .returned (.slice bo (c.ents.length + 1) cb) ∧ Hid (AftA w w' h k8 c q (putL c.ents d v) bo cb) ∧ w'.cell? ⟨k8, 7, none⟩ = some (.slice q.eo c.ents.length q.ec) ∧ w'.frozen? ⟨k8, 7, none⟩ = false := by
  have hB5 : B ≤ w5.heap.size := by have := F.2.2.2.1.1; have := F.2.2.2.2.2.2.2.2.1; have := F.2.2.2.2.2.2.2.2.2.1; omega
  have hw5 : k9 < w5.heap.size := F.2.2.2.1.1
  have hsz := hb.size
  have hvb := hv.lt vb rfl
  obtain ⟨_, _, _, _, hown, _, _, h3B, hB8, h89, hbig⟩ := id F
  have hne : q.eo ≠ some ⟨vb, 0, none⟩ := fun e => by
    have := hown vb (by rw [e]; rfl)
    omega
  refine Calls.mono (insert_any B (placeD c.ents d) q.eo q.ec c.ents ⟨d.1, d.2, v⟩ vb W (own_later F.2.2.1.1 hb) (own_mono hv (by omega)) hne (by omega) hbig (place_le _ _)) ?_
  rintro e w7 ⟨bo, cb, rfl, o7, g7, f7⟩
  have hn : ∀ g, g < B ∨ k8 ≤ g → some g ≠ (Value.slice q.eo c.ents.length q.ec).ownBlock := fun g hg e => by
    have := hown g e.symm
    omega
  have h8 := gb_has g7 (F.2.1.later hb) (hn _ (Or.inr (Nat.le_refl _)))
  have ha := gb_has g7 (F.1.2.2.2.later hb) (hn _ (Or.inl (by omega)))
  have hbel : Below h w w7 := (F.1.1.trans (hb.mono (by omega))).trans (gb_to g7 (by omega) fun k hk => by have := hown k hk; omega)
  have hbo : ∀ b, bo = some ⟨b, 0, none⟩ → b ≠ k8 := fun b hbb e => by
    rcases f7 b hbb with e2 | e2
    · have := hown b e2; omega
    · omega
  have hP : Parts B mid W c q := F.2.2.1.later hb
  have P3 := F.2.2.2.2.2.1
  have hk3 := F.2.2.2.2.2.2.1
  have hsl : ∀ L' : List E3, SEo ⟨bo, cb, q.lo, q.lc, q.so, q.sc⟩ (cE c L') := fun L' g hg _ hs hl => by
    have hg' : q.so = some ⟨g, 0, none⟩ := hg
    have hs' : 0 < (flatI c.seen).length := by rw [flatI_len]; have : 0 < c.seen.length := hs; omega
    have h1 := fown_lt P3.2.2.2.2 hs' hg'
    rcases f7 g hl with e2 | e2
    · have := P3.2.1 g e2
      omega
    · omega
  refine ⟨bo, cb, rfl, ⟨hbel, ha, h8, fun u => ⟨⟨(fown_apart o7 hbo u).mono (by omega), ((fown_young P3.2.2.2.1 (by omega) (gb_fown g7 (fun k hk => hP.2.1 k hk) hP.2.2.2.1) u).mono hP.2.2.1).mono (by omega), ((fown_young P3.2.2.2.2 (by omega) (gb_fown g7 (fun k hk => hP.2.1 k hk) hP.2.2.2.2) u).mono hP.2.2.1).mono (by omega)⟩, hsl _⟩⟩, h8.at 7 rfl, h8.free 7 rfl⟩

theorem aft_cutA {w7 : World} {L : List E3} {bo : Option Addr} {cb : Nat} (A : AftA w w7 h k8 c q (putL c.ents d v) bo cb) (hL : putL c.ents d v = L) (h8 : h + 3 ≤ k8) :
    ∃ bo' cb', Below h w (w7.setCell ⟨k8, 7, none⟩ (.slice bo (c.ents.length + 1) cb)) ∧ Has (w7.setCell ⟨k8, 7, none⟩ (.slice bo (c.ents.length + 1) cb)) (h + 2) (ceL ce0 pl0) ∧ Has (w7.setCell ⟨k8, 7, none⟩ (.slice bo (c.ents.length + 1) cb)) k8 (ceL (cE c L) ⟨bo', cb', q.lo, q.lc, q.so, q.sc⟩) ∧ COwnE (h + 3) (w7.setCell ⟨k8, 7, none⟩ (.slice bo (c.ents.length + 1) cb)) (cE c L) ⟨bo', cb', q.lo, q.lc, q.so, q.sc⟩ := by
  have e : L.length = c.ents.length + 1 := by rw [← hL]; exact insE_len _ _ _ (place_le _ _)
  subst hL
  refine ⟨bo, cb, A.1.setCell (p := ⟨k8, 7, none⟩) (by show h ≤ k8; omega) _, A.2.1.other (by omega) _ _, ?_, A.2.2.2 _⟩
  have := A.2.2.1.put 7 (.slice bo (c.ents.length + 1) cb)
  rw [← e] at this ⊢
  exact this

end

set_option maxHeartbeats 1600000 in
set_option maxRecDepth 100000 in
/-- Put takes it. -/
theorem put_yesA (c : Ce) (p : Pl) (d : D2) (v : ByteArray) (w : World) (hr : CRow w c p) (hf : Fit c) (hb : putB c d v = true) :
    Calls Tryz.prog 59 #[ceV c p, dv d, .string v] w fun e w' => ∃ q, e = .returned (.tuple #[ceV (cE c (putL c.ents d v)) q, .int .i64 0]) ∧ COwnE w.heap.size w' (cE c (putL c.ents d v)) q ∧ Below w.heap.size w w' := by
  have H0 : Hid (Set3 w w.heap.size c p d.1 d.2 (((w.alloc (.cells (ceL c p).toArray 30)).alloc (.cells #[.int .i64 d.1, .int .i64 d.2] 32)).alloc (.cells (ceL ce0 pl0).toArray 30))) := set3_new _ _ _ _ _ _ _ _
  have hlen : c.ents.length ≤ maxLen := by have := hf.1; unfold maxLen; omega
  obtain ⟨h, hh⟩ : ∃ h, w.heap.size = h := ⟨_, rfl⟩
  rw [hh] at H0 ⊢
  simp only [putB, Bool.and_eq_true, decide_eq_true_eq, Bool.not_eq_true'] at hb
  obtain ⟨hk, hm, hs, hn⟩ := hb
  have hk1 : (c.kind != 2) = false := by simpa using hk
  have hs1 : decide ((256 : Int) < (v.size : Int)) = false := by simp; omega
  have C := fun W => may_any d.1 d.2 16 W
  rw [hm] at C
  obtain ⟨L, hL⟩ : ∃ L, putL c.ents d v = L := ⟨_, rfl⟩
  rw [hL]
  have HR : Hid (CRow w c p ∧ Fit c ∧ w.heap.size = h ∧ putL c.ents d v = L ∧ hasD c.ents d = false) := ⟨hr, hf, hh, hL, hn⟩
  clear hr hf hk hm hL hn
  go_enter Tryz.func59, Tryz.ntmps59
  go_wp2_with fail
  refine (C _).mono ?_
  rintro e w1 ⟨rfl, b1⟩
  have H1 : Hid (Set3 w h c p d.1 d.2 w1) := H0.out.later b1
  clear b1 H0 C
  have t7 := H1.out.2.1.at 7 rfl
  have r0 := H1.out.2.2.1.at 0 rfl
  have r1 := H1.out.2.2.1.at 1 rfl
  have CH := fhas_any d p.eo p.ec c.ents w1 (HR.out.1.later (HR.out.2.2.1.symm ▸ H1.out.1)).1 hlen
  have e2 : (c.ents.any fun x => decide (dotE x = d)) = false := HR.out.2.2.2.2
  rw [e2] at CH
  clear e2
  go_wp2_with fail
  refine CH.mono ?_
  rintro e w2 ⟨rfl, b2⟩
  have H2 : Hid (Set3 w h c p d.1 d.2 w2) := H1.out.later b2
  clear b2 H1 CH t7 r0 r1
  obtain ⟨B, hB⟩ : ∃ B, w2.heap.size = B := ⟨_, rfl⟩
  have hB3 : h + 3 ≤ B := by have := H2.out.size; omega
  obtain ⟨t0, t1, t2, t3, t4, t5, t6, t7, t8, t9⟩ := H2.out.2.1.ten
  go_wp2_with fail
  refine (fcellO_any c p _ (HR.out.1.later (HR.out.2.2.1.symm ▸ H2.out.1)) HR.out.2.1).mono ?_
  rintro e w3 ⟨q, mid, rfl, P3, b3⟩
  rw [hB] at P3 b3
  obtain ⟨k8, hk8⟩ : ∃ k, w3.heap.size = k := ⟨_, rfl⟩
  have hal : Below w3.heap.size w3 (w3.alloc (.cells (ceL c q).toArray 30)) := (Below.refl _ _).alloc (Nat.le_refl _) _
  have hk8B : B ≤ k8 := by have := b3.size; omega
  have H4 : Hid (Set3 w h c p d.1 d.2 (w3.alloc (.cells (ceL c q).toArray 30)) ∧ Has (w3.alloc (.cells (ceL c q).toArray 30)) k8 (ceL c q) ∧ Parts B mid (w3.alloc (.cells (ceL c q).toArray 30)) c q) :=
    ⟨(H2.out.later (hB.symm ▸ b3)).later hal, hk8 ▸ has_new w3 (ceL c q) _, P3.later hal⟩
  have HP3 : Hid (Parts B mid w3 c q ∧ w3.heap.size = k8 ∧ (∀ g, (Value.slice q.eo c.ents.length q.ec).ownBlock = some g → g < k8 ∧ B ≤ g)) := ⟨P3, hk8, fun g hg => ⟨hk8 ▸ (P3.1.lt g hg).2, (P3.1.lt g hg).1⟩⟩
  clear P3 b3 hal t0 t1 t2 t3 t4 t5 t6 t7 t8 t9 H2
  go_upto_region 4 with fail
  generalize hW : w3.alloc (.cells (ceL c q).toArray 30) = w4 at H4 ⊢
  obtain ⟨B4, hB4⟩ : ∃ B4, w4.heap.size = B4 := ⟨_, rfl⟩
  have hk84 : k8 < B4 := by rw [← hB4, ← hW]; simp [hk8]
  have HB4 : Hid (w4.heap.size = B4 ∧ h + 3 ≤ B ∧ B ≤ k8) := ⟨hB4, hB3, hk8B⟩
  have HS : Hid (Src4 w4 B4 (h + 1) d) := ⟨by omega, H4.out.1.2.2.1, by omega⟩
  have hz : B4 ≤ w4.heap.size := by omega
  have hzd : B4 ≤ w4.drew.heap.size := hz
  clear hW hB4 hB hk8
  go_cut [9] from 10 to 47 (fun r wx => ∃ k9 : Nat, r = .pointer (some ⟨k9, 0, none⟩) ∧ Hid (B4 ≤ k9 ∧ Has wx k9 [.int .i64 d.1, .int .i64 d.2, .string v] ∧ Below B4 w4 wx))
  case first =>
    go_region_held3 (Held4 w4 B4 (h + 1) d) (first | (with_reducible apply held4_later HS.out hb2; assumption) | with_reducible apply held4_put HS.out T6 (by assumption) | (with_reducible apply held4_swap HS.out (by omega) (by assumption)) | (with_reducible exact held4_drew HS.out) | (with_reducible exact held4_first HS.out _) | (with_reducible apply held4_alloc HS.out _ (by assumption)))
      (first
        | (go_at_call 102; with_reducible refine (clone_any _ _ (by omega)).mono ?_; rintro e w5 ⟨rfl, hb2⟩; have hz := hb2.size; first | (with_reducible have T6 := three_newd (B := B4) (by omega) hb2; obtain ⟨y0, y1, y2, z0, z1, z2⟩ := three_cells T6) | (with_reducible have T6 := three_new (B := B4) (by omega) hb2; obtain ⟨y0, y1, y2, z0, z1, z2⟩ := three_cells T6) | skip))
    all_goals
      (go_wp2_with fail
       go_meet
       case rel =>
         (first
           | (have E7 := end4_put (w1 := w4) (k := h + 1) v T6 (by assumption); exact ⟨_, rfl, E7⟩)
           | (have E7 := end4_new (w1 := w4) (W := w5) (B := B4) (k := h + 1) v 62 (by omega) (by assumption); exact ⟨_, rfl, E7⟩)))
  case rest =>
    obtain ⟨w5, rfl⟩ : ∃ z, z = wc := ⟨_, rfl⟩
    obtain ⟨k9, rfl, HQ⟩ := hcut
    have HF : Hid (Fix w w3 w5 h k8 k9 B mid c p q d v) := by
      have hb : Below w4.heap.size w4 w5 := HB4.out.1.symm ▸ HQ.out.2.2
      exact ⟨H4.out.1.later hb, H4.out.2.1.later hb, H4.out.2.2.later hb, HQ.out.2.1, HP3.out.2.2, HP3.out.1, HP3.out.2.1, HB4.out.2.1, HB4.out.2.2, by have := HQ.out.1; omega, by have := HR.out.2.1.1; omega⟩
    have h38 : h + 3 ≤ k8 := by omega
    have h89 : k8 < k9 := HF.out.2.2.2.2.2.2.2.2.2.1
    clear H4 HQ HS hz hzd HB4 HP3 hB3 hk8B hk84
    have c7 := HF.out.2.1.at 7 rfl
    go_upto_region 5 with fail
    go_cut [9] from 10 to 47 (fun r wx => r = .pointer (some ⟨k9, 0, none⟩) ∧ Hid (∃ bo cb, Below h w wx ∧ Has wx (h + 2) (ceL ce0 pl0) ∧ Has wx k8 (ceL (cE c L) ⟨bo, cb, q.lo, q.lc, q.so, q.sc⟩) ∧ COwnE (h + 3) wx (cE c L) ⟨bo, cb, q.lo, q.lc, q.so, q.sc⟩))
    case first =>
      refine wp_region_till (Held6 w5 h k8 k9 c q d v) 8 (by kernel_rfl) (fun hcl => ?_)
      have hHeld : Held6 w5 h k8 k9 c q d v w5.drew := held6_of HF.out (Below.refl _ _).drew
      refine takeT 0 36 (v := .pointer (some ⟨k8, 7, none⟩)) rfl (by kernel_rfl) (by kernel_rfl) (by kernel_rfl) (fun _ _ _ h => h) (Waits.trans (waits_one (i := 1) (by kernel_rfl)) (waits_one (i := 0) (by kernel_rfl))) (by decide) hcl rfl (by rfl) (fun w hSw => ?hy) hHeld (fun hcl => ?_)
      case hy =>
        try dsimp only at hSw
        go_simp
      simp only [List.set_cons_zero, List.set_cons_succ]
      refine takeT 1 37 (v := .slice q.eo c.ents.length q.ec) rfl (by kernel_rfl) (by kernel_rfl) (by kernel_rfl) (fun _ _ _ h => h) (waits_one (i := 1) (by kernel_rfl)) (by decide) hcl rfl (by rfl) (fun w hSw => ?hy) hHeld (fun hcl => ?_)
      case hy =>
        try dsimp only at hSw
        go_simp
      simp only [List.set_cons_zero, List.set_cons_succ]
      refine takeT 2 38 (v := .pointer (some ⟨k8, 7, none⟩)) rfl (by kernel_rfl) (by kernel_rfl) (by kernel_rfl) (fun _ _ _ h => h) (Waits.trans (Waits.trans (waits_one (i := 5) (by kernel_rfl)) (waits_one (i := 3) (by kernel_rfl))) (waits_one (i := 2) (by kernel_rfl))) (by decide) hcl rfl (by rfl) (fun w hSw => ?hy) hHeld (fun hcl => ?_)
      case hy =>
        try dsimp only at hSw
        go_simp
      simp only [List.set_cons_zero, List.set_cons_succ]
      refine takeT 3 39 (v := .slice q.eo c.ents.length q.ec) rfl (by kernel_rfl) (by kernel_rfl) (by kernel_rfl) (fun _ _ _ h => h) (Waits.trans (waits_one (i := 5) (by kernel_rfl)) (waits_one (i := 3) (by kernel_rfl))) (by decide) hcl rfl (by rfl) (fun w hSw => ?hy) hHeld (fun hcl => ?_)
      case hy =>
        try dsimp only at hSw
        go_simp
      simp only [List.set_cons_zero, List.set_cons_succ]
      refine takeT 4 40 (v := .agg #[.int .i64 d.1, .int .i64 d.2]) rfl (by kernel_rfl) (by kernel_rfl) (by kernel_rfl) (fun _ _ _ h => h) (Waits.trans (waits_one (i := 5) (by kernel_rfl)) (waits_one (i := 4) (by kernel_rfl))) (by decide) hcl rfl (by rfl) (fun w hSw => ?hy) hHeld (fun hcl => ?_)
      case hy =>
        try dsimp only at hSw
        go_simp
      simp only [List.set_cons_zero, List.set_cons_succ]
      refine takeT 6 42 (v := .agg #[.int .i64 d.1, .int .i64 d.2, .string v]) rfl (by kernel_rfl) (by kernel_rfl) (by kernel_rfl) (fun _ _ _ h => h) (Waits.trans (waits_one (i := 7) (by kernel_rfl)) (waits_one (i := 6) (by kernel_rfl))) (by decide) hcl rfl (by rfl) (fun w hSw => ?hy) hHeld (fun hcl => ?_)
      case hy =>
        try dsimp only at hSw
        go_simp
      simp only [List.set_cons_zero, List.set_cons_succ]
      have HL : Hid (putL c.ents d v = L) := HR.out.2.2.2.1
      refine readyT (rs := [5, 7]) (by kernel_rfl) (by simp) ?_
      refine AllT.cons rfl (fun K hK => ?_) (AllT.cons rfl (fun K hK => ?_) AllT.nil)
      · go_simp
        refine (place_fix HF.out _ hHeld.1).mono ?_
        rintro e w6 ⟨rfl, b6⟩
        have B6 : Hid (Below w5.heap.size w5 w6) := thenB hHeld.1 b6
        first | go_simp | skip
        refine hK.out _ _ (held6_of HF.out B6.out) ?_
        clear hK K
        try simp only [Act.put, List.setIfInBounds_toArray, List.set_cons_zero, List.set_cons_succ]
        refine readyT (rs := [7]) (by kernel_rfl) (by simp) ?_
        refine AllT.cons rfl (fun K hK => ?_) AllT.nil
        go_simp
        have HB : Hid (Below w5.heap.size w5 (w6.alloc (.cells #[.int .i64 d.1, .int .i64 d.2, .string v] 62))) := thenB B6.out ((Below.refl _ _).alloc (Nat.le_refl _) _)
        have HO : Hid ((w6.alloc (.cells #[.int .i64 d.1, .int .i64 d.2, .string v] 62)).ownsRow w5.heap.size 62 3 (.slice (some ⟨w6.heap.size, 0, none⟩) 1 1) 1 [.int .i64 d.1, .int .i64 d.2, .string v]) := one_new w6 B6.out.size d v
        refine hK.out _ _ (held6_of HF.out HB.out) ?_
        clear hK K
        try simp only [Act.put, List.setIfInBounds_toArray, List.set_cons_zero, List.set_cons_succ]
        refine readyT (rs := [8]) (by kernel_rfl) (by simp) ?_
        refine AllT.late rfl (by kernel_rfl) (fun K hK => ?_) AllT.nil
        go_simp
        refine (ins_fixA HF.out _ HB.out _ HO.out).mono ?_
        rintro e w7 ⟨bo, cb, rfl, HA, c7, f7⟩
        first | go_simp | skip
        refine hK.out _ _ ?_
        clear hK K
        try simp only [Act.put, List.setIfInBounds_toArray, List.set_cons_zero, List.set_cons_succ]
        refine readyT (rs := [9]) (by kernel_rfl) (by simp) ?_
        refine AllT.late rfl (by kernel_rfl) (fun K hK => ?_) AllT.nil
        go_simp
        refine hK.out _ _ ?_
        clear hK K
        try simp only [Act.put, List.setIfInBounds_toArray, List.set_cons_zero, List.set_cons_succ]
        refine readyT (rs := [10]) (by kernel_rfl) (by simp) ?_
        refine AllT.late rfl (by kernel_rfl) (fun K hK => ?_) AllT.nil
        go_simp
        refine hK.out _ _ ?_
        clear hK K
        try simp only [Act.put, List.setIfInBounds_toArray, List.set_cons_zero, List.set_cons_succ]
        refine doneT (by kernel_rfl) ?_ _
        go_wp2_with fail
        go_meet
        case rel => exact ⟨rfl, aft_cutA HA.out HL.out h38⟩
      · go_simp
        have B6 : Hid (Below w5.heap.size w5 (w5.alloc (.cells #[.int .i64 d.1, .int .i64 d.2, .string v] 62)).drew) := ((Below.refl _ _).alloc (Nat.le_refl _) _).drew
        have O6 : Hid ((w5.alloc (.cells #[.int .i64 d.1, .int .i64 d.2, .string v] 62)).drew.ownsRow w5.heap.size 62 3 (.slice (some ⟨w5.heap.size, 0, none⟩) 1 1) 1 [.int .i64 d.1, .int .i64 d.2, .string v]) := one_new w5 (Nat.le_refl _) d v
        refine hK.out _ _ (held6_of HF.out B6.out) ?_
        clear hK K
        try simp only [Act.put, List.setIfInBounds_toArray, List.set_cons_zero, List.set_cons_succ]
        refine readyT (rs := [5]) (by kernel_rfl) (by simp) ?_
        refine AllT.cons rfl (fun K hK => ?_) AllT.nil
        go_simp
        refine (place_fix HF.out _ B6.out).mono ?_
        rintro e w6 ⟨rfl, b6⟩
        have HB : Hid (Below w5.heap.size w5 w6) := thenB B6.out b6
        have HO : Hid (w6.ownsRow w5.heap.size 62 3 (.slice (some ⟨w5.heap.size, 0, none⟩) 1 1) 1 [.int .i64 d.1, .int .i64 d.2, .string v]) := own_later O6.out b6
        first | go_simp | skip
        refine hK.out _ _ (held6_of HF.out HB.out) ?_
        clear hK K
        try simp only [Act.put, List.setIfInBounds_toArray, List.set_cons_zero, List.set_cons_succ]
        refine readyT (rs := [8]) (by kernel_rfl) (by simp) ?_
        refine AllT.late rfl (by kernel_rfl) (fun K hK => ?_) AllT.nil
        go_simp
        refine (ins_fixA HF.out _ HB.out _ HO.out).mono ?_
        rintro e w7 ⟨bo, cb, rfl, HA, c7, f7⟩
        first | go_simp | skip
        refine hK.out _ _ ?_
        clear hK K
        try simp only [Act.put, List.setIfInBounds_toArray, List.set_cons_zero, List.set_cons_succ]
        refine readyT (rs := [9]) (by kernel_rfl) (by simp) ?_
        refine AllT.late rfl (by kernel_rfl) (fun K hK => ?_) AllT.nil
        go_simp
        refine hK.out _ _ ?_
        clear hK K
        try simp only [Act.put, List.setIfInBounds_toArray, List.set_cons_zero, List.set_cons_succ]
        refine readyT (rs := [10]) (by kernel_rfl) (by simp) ?_
        refine AllT.late rfl (by kernel_rfl) (fun K hK => ?_) AllT.nil
        go_simp
        refine hK.out _ _ ?_
        clear hK K
        try simp only [Act.put, List.setIfInBounds_toArray, List.set_cons_zero, List.set_cons_succ]
        refine doneT (by kernel_rfl) ?_ _
        go_wp2_with fail
        go_meet
        case rel => exact ⟨rfl, aft_cutA HA.out HL.out h38⟩
    case rest =>
      obtain ⟨w8, rfl⟩ : ∃ z, z = wc := ⟨_, rfl⟩
      obtain ⟨rfl, HQ⟩ := hcut
      obtain ⟨bo, cb, q1, q2, q3, q4⟩ := HQ.out
      have HZ : Hid (Below h w w8 ∧ Has w8 (h + 2) (ceL ce0 pl0) ∧ COwnE (h + 3) w8 (cE c L) ⟨bo, cb, q.lo, q.lc, q.so, q.sc⟩) := ⟨q1, q2, q4⟩
      clear HQ c7 HF q1 q4
      obtain ⟨t0, t1, t2, t3, t4, t5, t6, t7, t8, t9⟩ := q3.ten
      obtain ⟨s0, s1, s2, s3, s4, s5, s6, s7, s8, s9⟩ := q2.ten
      obtain ⟨z0, z1, z2, z3, z4, z5, z6, z7, z8, z9⟩ := q2.tenf
      clear q2 q3
      go_wp2_with fail
      exact put_endA (d := cE c L) (q := ⟨bo, cb, q.lo, q.lc, q.so, q.sc⟩) HZ.out.1 HZ.out.2.1 HZ.out.2.2 rfl rfl rfl rfl

end Go.Proofs.YtgkddimijmnpcaaGreatDoor

