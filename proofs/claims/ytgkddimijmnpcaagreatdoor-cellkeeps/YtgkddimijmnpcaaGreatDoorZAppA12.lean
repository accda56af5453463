/-
  Package cell's Apply at the kinds 0 to 2.
-/
import Derived.Test.YtgkddimijmnpcaaGreatDoorZPack5
namespace Go.Proofs.YtgkddimijmnpcaaGreatDoor
open Go.RowKit Go.Shelf
set_option linter.unusedVariables false
set_option linter.unusedSimpArgs false

set_option maxHeartbeats 4000000 in
set_option maxRecDepth 100000 in
theorem app_0 (c : Ce) (p : Pl) (dn ds time : Int) (deps : List Int) (ty idd field value : ByteArray) (re im rn rs : Int) (dots : List D2) (q : Pq) (n : Int) (w : World) (hr : CRow w c p) (hf : Fit c) (hwf : Wf5 c) (ho : ORow w ⟨dn, ds, time, deps, 0, ty, idd, field, value, re, im, rn, rs, dots⟩ q) (hs : Siz ⟨dn, ds, time, deps, 0, ty, idd, field, value, re, im, rn, rs, dots⟩) (hv : value.size ≤ maxLen) (hd : dots.length * 16 ≤ 140737488355328) (hm : cmayB c n = true) (hmo : mayO ⟨dn, ds, time, deps, 0, ty, idd, field, value, re, im, rn, rs, dots⟩ n = true) (hk : c.kind = 0) (hz : Hid (c.ents = [] ∧ c.elems = [])) :
    Calls Tryz.prog 11 #[ceV c p, oV ⟨dn, ds, time, deps, 0, ty, idd, field, value, re, im, rn, rs, dots⟩ q, .int .i64 n] w fun e w' => ∃ x, e = .returned (.tuple #[ceV (appC c ⟨dn, ds, time, deps, 0, ty, idd, field, value, re, im, rn, rs, dots⟩ n).1 x, .int .i64 (appC c ⟨dn, ds, time, deps, 0, ty, idd, field, value, re, im, rn, rs, dots⟩ n).2]) ∧ COwn w.heap.size w' (appC c ⟨dn, ds, time, deps, 0, ty, idd, field, value, re, im, rn, rs, dots⟩ n).1 x ∧ Below w.heap.size w w' := by
  have hA : appC c ⟨dn, ds, time, deps, 0, ty, idd, field, value, re, im, rn, rs, dots⟩ n = (if (effC c ⟨dn, ds, time, deps, 0, ty, idd, field, value, re, im, rn, rs, dots⟩).2 = 0 then (seeC (effC c ⟨dn, ds, time, deps, 0, ty, idd, field, value, re, im, rn, rs, dots⟩).1 (dn, ds), 0) else (ce0, (effC c ⟨dn, ds, time, deps, 0, ty, idd, field, value, re, im, rn, rs, dots⟩).2)) := by
    unfold appC
    rw [if_pos (by rw [hm, hmo]; rfl), if_pos (by rw [hk]; rfl)]
  obtain ⟨d, er, hD⟩ : ∃ d er, effC c ⟨dn, ds, time, deps, 0, ty, idd, field, value, re, im, rn, rs, dots⟩ = (d, er) := ⟨_, _, rfl⟩
  rw [hD] at hA
  obtain ⟨A, ea, hAE⟩ : ∃ A ea, appC c ⟨dn, ds, time, deps, 0, ty, idd, field, value, re, im, rn, rs, dots⟩ n = (A, ea) := ⟨_, _, rfl⟩
  rw [hAE]
  have HA : Hid ((if er = 0 then (seeC d (dn, ds), (0 : Int)) else (ce0, er)) = (A, ea)) := hA.symm.trans hAE
  have HD : Hid (effC c ⟨dn, ds, time, deps, 0, ty, idd, field, value, re, im, rn, rs, dots⟩ = (d, er)) := hD
  clear hA hD hAE
  obtain ⟨po, pc, qo, qc⟩ := q
  have HP : Hid (Fit c ∧ Wf5 c ∧ Siz ⟨dn, ds, time, deps, 0, ty, idd, field, value, re, im, rn, rs, dots⟩ ∧ value.size ≤ maxLen ∧ dots.length * 16 ≤ 140737488355328 ∧ cmayB c n = true ∧ mayO ⟨dn, ds, time, deps, 0, ty, idd, field, value, re, im, rn, rs, dots⟩ n = true) := ⟨hf, hwf, hs, hv, hd, hm, hmo⟩
  obtain ⟨h, hh⟩ : ∃ h, w.heap.size = h := ⟨_, rfl⟩
  have H0 : Hid (Eff3 w h c p ⟨dn, ds, time, deps, 0, ty, idd, field, value, re, im, rn, rs, dots⟩ ⟨po, pc, qo, qc⟩ (((w.alloc (.cells (ceL c p).toArray 30)).alloc (.cells (oL ⟨dn, ds, time, deps, 0, ty, idd, field, value, re, im, rn, rs, dots⟩ ⟨po, pc, qo, qc⟩).toArray 35)).alloc (.cells #[.int .i64 0, .bool false, .int .i64 0, .int .i64 0, .string ⟨#[]⟩, .int .i64 0, .int .i64 0, .slice none 0 0, .slice none 0 0, .slice none 0 0] 30))) := eff3_new hh hr ho
  rw [hh]
  have HK : Hid (c.kind = 0) := hk
  clear hr hf hwf ho hs hv hd hm hmo hk
  go_enter Tryz.func11, Tryz.ntmps11
  go_upto_region 1 with fail
  generalize hW : ((w.alloc (.cells (ceL c p).toArray 30)).alloc (.cells (oL ⟨dn, ds, time, deps, 0, ty, idd, field, value, re, im, rn, rs, dots⟩ ⟨po, pc, qo, qc⟩).toArray 35)).alloc (.cells #[.int .i64 0, .bool false, .int .i64 0, .int .i64 0, .string ⟨#[]⟩, .int .i64 0, .int .i64 0, .slice none 0 0, .slice none 0 0, .slice none 0 0] 30) = w1 at H0 ⊢
  clear hW
  try simp only [hh]
  clear hh
  have lc := ld_ce H0.out.cell
  have C1 := cmay_any c p n w1 H0.out.cr HP.out.1 HP.out.2.1
  rw [HP.out.2.2.2.2.2.1] at C1
  go_wp2_with (refine wpList_ldt lc rfl rfl rfl ?_)
  refine C1.mono ?_
  rintro e w2 ⟨rfl, b2⟩
  have H2 : Hid (Eff3 w h c p ⟨dn, ds, time, deps, 0, ty, idd, field, value, re, im, rn, rs, dots⟩ ⟨po, pc, qo, qc⟩ w2) := H0.out.later b2
  clear b2 H0 lc C1
  have lo := ld_op H2.out.op
  have C2 := omay_any ⟨dn, ds, time, deps, 0, ty, idd, field, value, re, im, rn, rs, dots⟩ ⟨po, pc, qo, qc⟩ n w2 H2.out.orw HP.out.2.2.1
  rw [HP.out.2.2.2.2.2.2] at C2
  go_wp2_with (refine wpList_ld lo rfl rfl rfl ?_)
  refine C2.mono ?_
  rintro e w3 ⟨rfl, b3⟩
  have H3 : Hid (Eff3 w h c p ⟨dn, ds, time, deps, 0, ty, idd, field, value, re, im, rn, rs, dots⟩ ⟨po, pc, qo, qc⟩ w3) := H2.out.later b3
  clear b3 H2 lo C2
  go_upto_region 3 with fail
  obtain ⟨kk, hkk⟩ : ∃ kk, w3.heap.size = kk := ⟨_, rfl⟩
  have hlt : h < kk := by have := H3.out.res.1; omega
  have hlt1 : h + 1 < kk := by have := H3.out.res.1; omega
  have hne : Nonempty (MW kk w3) := MW.some hkk
  have g0 : ∀ r : MW kk w3, r.w.cell? ⟨h, 0, none⟩ = some (.int .i64 0) := MW.has H3.out.cell hlt (by rw [← HK.out]; rfl)
  have lo := ld_mild H3.out.op hlt1
  have C3 : ∀ r : MW kk w3, Calls Tryz.prog 28 #[oV ⟨dn, ds, time, deps, 0, ty, idd, field, value, re, im, rn, rs, dots⟩ ⟨po, pc, qo, qc⟩] r.w fun e w' => e = .returned (.int .i64 0) ∧ Below r.w.heap.size r.w w' := fun r => okind_any ⟨dn, ds, time, deps, 0, ty, idd, field, value, re, im, rn, rs, dots⟩ ⟨po, pc, qo, qc⟩ r.w
  have HG : Hid (∀ rq : MW kk w3, Eff3 w h c p ⟨dn, ds, time, deps, 0, ty, idd, field, value, re, im, rn, rs, dots⟩ ⟨po, pc, qo, qc⟩ rq.w) := fun rq => H3.out.later (hkk.symm ▸ rq.h.1)
  refine wp_region_mild hkk (by kernel_rfl) (by kernel_rfl) ?_
  refine wpQuiet_ld lo rfl rfl rfl ?_
  try simp only [Act.put, List.setIfInBounds_toArray, List.set_cons_zero, List.set_cons_succ]
  repeat (go_big_quiet_step ((first | (go_at_call 28; refine (C3 _).mono ?_; rintro e w2 ⟨rfl, b⟩; exact ⟨rfl, MW.later _ b⟩))))
  refine wpQuiet_nil ?_
  intro _ hw'
  obtain ⟨rq, rfl⟩ := hw'
  have F4 : Hid (Eff3 w h c p ⟨dn, ds, time, deps, 0, ty, idd, field, value, re, im, rn, rs, dots⟩ ⟨po, pc, qo, qc⟩ rq.w) := HG.out rq
  clear g0 lo C3 H3 HG
  generalize rq.w = w4 at F4 ⊢
  clear rq hne
  clear hkk hlt hlt1
  go_upto_region 5 with fail
  obtain ⟨B, hB⟩ : ∃ B, w4.heap.size = B := ⟨_, rfl⟩
  have HB : Hid (w4.heap.size = B) := hB
  clear hB
  go_cut [8, 9] from 29 to 38 (fun r8 r9 wx => ∃ k8 : Nat, r8 = .pointer (some ⟨k8, 0, none⟩) ∧ r9 = .int .i64 er ∧ Hid (∃ x, EndY w h ⟨dn, ds, time, deps, 0, ty, idd, field, value, re, im, rn, rs, dots⟩ ⟨po, pc, qo, qc⟩ d x k8 wx))
  case first =>
    have HY4 : Hid (∀ W, HeldY w4 B W → W.cell? ⟨h + 1, 4, none⟩ = some (.int .i64 0)) := fun W H => (F4.out.later (HB.out.symm ▸ H.out.1)).op.at 4 rfl
    have HYC : Hid (∀ W, HeldY w4 B W → LdT 30 W h (ceV c p)) := fun W H => ld_ce (F4.out.later (HB.out.symm ▸ H.out.1)).cell
    have HYO : Hid (∀ W, HeldY w4 B W → Ld W (h + 1) (oV ⟨dn, ds, time, deps, 0, ty, idd, field, value, re, im, rn, rs, dots⟩ ⟨po, pc, qo, qc⟩)) := fun W H => ld_op (F4.out.later (HB.out.symm ▸ H.out.1)).op
    refine wp_region_held_drew (S := HeldY w4 B) (by kernel_rfl) ⟨(Below.refl _ _).drew, Nat.le_of_eq HB.out.symm⟩ (fun hHeld => ?_)
    refine take_at 1 30 (v := .pointer (some ⟨h + 1, 4, none⟩)) rfl (by kernel_rfl) (by kernel_rfl) (by kernel_rfl) (fun _ _ _ h => h) rfl (by rfl) (fun w hSw => ?hy) hHeld ?_
    case hy =>
      try dsimp only at hSw
      go_simp
    simp only [List.set_cons_zero, List.set_cons_succ]
    refine take_at 2 31 (v := .int .i64 0) rfl (by kernel_rfl) (by kernel_rfl) (by kernel_rfl) (fun _ _ _ h => h) rfl (by rfl) (fun w hSw => ?hy) hHeld ?_
    case hy =>
      have hc := HY4.out _ hSw
      try dsimp only at hSw
      go_simp
    simp only [List.set_cons_zero, List.set_cons_succ]
    refine take_at 5 34 (v := ceV c p) rfl (by kernel_rfl) (by kernel_rfl) (by kernel_rfl) (fun _ _ _ h => h) rfl (by rfl) (fun w hSw => ?hy) hHeld ?_
    case hy =>
      exact exec_ldt (HYC.out _ hSw) rfl rfl
    simp only [List.set_cons_zero, List.set_cons_succ]
    refine take_at 6 35 (v := oV ⟨dn, ds, time, deps, 0, ty, idd, field, value, re, im, rn, rs, dots⟩ ⟨po, pc, qo, qc⟩) rfl (by kernel_rfl) (by kernel_rfl) (by kernel_rfl) (fun _ _ _ h => h) rfl (by rfl) (fun w hSw => ?hy) hHeld ?_
    case hy =>
      exact exec_ld (HYO.out _ hSw) rfl rfl
    simp only [List.set_cons_zero, List.set_cons_succ]
    refine wpAnyH_ready (rs := [0, 11]) (by kernel_rfl) (by simp) ?_
    refine AllReadyH.cons rfl (fun K hK => ?_) (AllReadyH.cons rfl (fun K hK => ?_) AllReadyH.nil)
    · go_simp
      refine (changes_any _).mono ?_
      rintro e w5 ⟨g, rfl, T5, b5⟩
      have HT : Hid (w5.cell? ⟨g, 0, none⟩ = some (fnV 54)) := T5.at 0 rfl
      have HG : Hid (g < w5.heap.size) := T5.1
      have HE : HeldY w4 B w5 := heldY_call b5 hHeld
      clear T5 b5
      first | go_simp | skip
      refine hK.out _ _ HE (fun hHeld => ?_)
      clear hK K
      try simp only [Act.put, List.setIfInBounds_toArray, List.set_cons_zero, List.set_cons_succ]
      refine take_at 3 32 (v := .pointer (some ⟨g, 0, none⟩)) rfl (by kernel_rfl) (by kernel_rfl) (by kernel_rfl) (fun _ _ _ h => h) rfl (by rfl) (fun w hSw => ?hy) hHeld ?_
      case hy =>
        try dsimp only at hSw
        go_simp
      simp only [List.set_cons_zero, List.set_cons_succ]
      refine wpAnyH_ready (rs := [4, 11]) (by kernel_rfl) (by simp) ?_
      refine AllReadyH.cons rfl (fun K hK => ?_) (AllReadyH.cons rfl (fun K hK => ?_) AllReadyH.nil)
      · have c4 := HT.out
        go_simp
        clear c4
        refine hK.out _ _ hHeld (fun hHeld => ?_)
        clear hK K
        try simp only [Act.put, List.setIfInBounds_toArray, List.set_cons_zero, List.set_cons_succ]
        refine wpAnyH_ready (rs := [7, 11]) (by kernel_rfl) (by simp) ?_
        refine AllReadyH.cons rfl (fun K hK => ?_) (AllReadyH.cons rfl (fun K hK => ?_) AllReadyH.nil)
        · have CC := chg_0 c p dn ds time deps ty idd field value re im rn rs dots ⟨po, pc, qo, qc⟩ w5 (F4.out.later (HB.out.symm ▸ hHeld.out.1)).cr HP.out.1 (F4.out.later (HB.out.symm ▸ hHeld.out.1)).orw HP.out.2.2.2.1 HP.out.2.2.2.2.1 hz
          rw [HD.out] at CC
          go_simp
          refine CC.mono ?_
          rintro e w6 ⟨x, rfl, o6, b6⟩
          have HE : HeldY w4 B w6 := heldY_call b6 hHeld
          have O6 : Hid (COwnZ w5.heap.size w6 d x ∧ B ≤ w5.heap.size) := ⟨o6, hHeld.out.2⟩
          clear o6 b6 CC
          first | go_simp | skip
          refine hK.out _ _ HE (fun hHeld => ?_)
          clear hK K
          try simp only [Act.put, List.setIfInBounds_toArray, List.set_cons_zero, List.set_cons_succ]
          refine take_at 8 28 (v := .tuple #[ceV d x, .int .i64 er]) rfl (by kernel_rfl) (by kernel_rfl) (by kernel_rfl) (fun _ _ _ h => h) rfl (by rfl) (fun w hSw => ?hy) hHeld ?_
          case hy =>
            try dsimp only at hSw
            go_simp
          simp only [List.set_cons_zero, List.set_cons_succ]
          refine take_at 9 37 (v := ceV d x) rfl (by kernel_rfl) (by kernel_rfl) (by kernel_rfl) (fun _ _ _ h => h) rfl (by rfl) (fun w hSw => ?hy) hHeld ?_
          case hy =>
            try dsimp only at hSw
            go_simp
          simp only [List.set_cons_zero, List.set_cons_succ]
          refine take_at 10 38 (v := .int .i64 er) rfl (by kernel_rfl) (by kernel_rfl) (by kernel_rfl) (fun _ _ _ h => h) rfl (by rfl) (fun w hSw => ?hy) hHeld ?_
          case hy =>
            try dsimp only at hSw
            go_simp
          simp only [List.set_cons_zero, List.set_cons_succ]
          refine wpAnyH_ready (rs := [11]) (by kernel_rfl) (by simp) ?_
          refine AllReadyH.cons rfl (fun K hK => ?_) AllReadyH.nil
          go_simp
          have N8 : Hid (Slot8 B w6.heap.size (w6.alloc (.cells #[.int .i64 0, .bool false, .int .i64 0, .int .i64 0, .string ⟨#[]⟩, .int .i64 0, .int .i64 0, .slice none 0 0, .slice none 0 0, .slice none 0 0] 30))) := slot8_new hHeld
          have b8 : Below w6.heap.size w6 (w6.alloc (.cells #[.int .i64 0, .bool false, .int .i64 0, .int .i64 0, .string ⟨#[]⟩, .int .i64 0, .int .i64 0, .slice none 0 0, .slice none 0 0, .slice none 0 0] 30)) := (Below.refl _ _).alloc (Nat.le_refl _) _
          have HE : HeldY w4 B (w6.alloc (.cells #[.int .i64 0, .bool false, .int .i64 0, .int .i64 0, .string ⟨#[]⟩, .int .i64 0, .int .i64 0, .slice none 0 0, .slice none 0 0, .slice none 0 0] 30)) := heldY_call b8 hHeld
          clear b8
          have HE6 : HeldY w4 B w6 := hHeld
          refine hK.out _ _ HE (fun hHeld => ?_)
          clear hK K
          try simp only [Act.put, List.setIfInBounds_toArray, List.set_cons_zero, List.set_cons_succ]
          refine wpAnyH_ready (rs := [12]) (by kernel_rfl) (by simp) ?_
          refine AllReadyH.cons rfl (fun K hK => ?_) AllReadyH.nil
          go_simp
          have HE : HeldY w4 B (w6.alloc (.cells (ceL d x).toArray 30)) := heldY_call ((Below.refl _ _).alloc (Nat.le_refl _) _) HE6
          refine hK.out _ _ HE (fun hHeld => ?_)
          clear hK K
          try simp only [Act.put, List.setIfInBounds_toArray, List.set_cons_zero, List.set_cons_succ]
          refine take_at 13 9 (v := .int .i64 er) rfl (by kernel_rfl) (by kernel_rfl) (by kernel_rfl) (fun _ _ _ h => h) rfl (by rfl) (fun w hSw => ?hy) hHeld ?_
          case hy =>
            try dsimp only at hSw
            go_simp
          simp only [List.set_cons_zero, List.set_cons_succ]
          refine wpAnyH_done (by kernel_rfl) ?_ _
          go_wp2_with fail
          go_meet
          case rel => exact ⟨_, rfl, rfl, x, endY_new F4.out HB.out HE6 O6.out.1 O6.out.2⟩
        · go_simp
          have N8 : Hid (Slot8 B w5.heap.size (w5.alloc (.cells #[.int .i64 0, .bool false, .int .i64 0, .int .i64 0, .string ⟨#[]⟩, .int .i64 0, .int .i64 0, .slice none 0 0, .slice none 0 0, .slice none 0 0] 30))) := slot8_new hHeld
          have b8 : Below w5.heap.size w5 (w5.alloc (.cells #[.int .i64 0, .bool false, .int .i64 0, .int .i64 0, .string ⟨#[]⟩, .int .i64 0, .int .i64 0, .slice none 0 0, .slice none 0 0, .slice none 0 0] 30)) := (Below.refl _ _).alloc (Nat.le_refl _) _
          have HE : HeldY w4 B (w5.alloc (.cells #[.int .i64 0, .bool false, .int .i64 0, .int .i64 0, .string ⟨#[]⟩, .int .i64 0, .int .i64 0, .slice none 0 0, .slice none 0 0, .slice none 0 0] 30)) := heldY_call b8 hHeld
          have HT : Hid ((w5.alloc (.cells #[.int .i64 0, .bool false, .int .i64 0, .int .i64 0, .string ⟨#[]⟩, .int .i64 0, .int .i64 0, .slice none 0 0, .slice none 0 0, .slice none 0 0] 30)).cell? ⟨g, 0, none⟩ = some (fnV 54)) := (b8.cell (p := ⟨g, 0, none⟩) (by exact HG.out)).trans HT.out
          clear b8
          refine hK.out _ _ HE (fun hHeld => ?_)
          clear hK K
          try simp only [Act.put, List.setIfInBounds_toArray, List.set_cons_zero, List.set_cons_succ]
          clear HE
          generalize (w5.alloc (.cells #[.int .i64 0, .bool false, .int .i64 0, .int .i64 0, .string ⟨#[]⟩, .int .i64 0, .int .i64 0, .slice none 0 0, .slice none 0 0, .slice none 0 0] 30)) = w8 at hHeld N8 HT ⊢
          generalize w5.heap.size = k8 at N8 ⊢
          refine wpAnyH_ready (rs := [7]) (by kernel_rfl) (by simp) ?_
          refine AllReadyH.cons rfl (fun K hK => ?_) AllReadyH.nil
          have CC := chg_0 c p dn ds time deps ty idd field value re im rn rs dots ⟨po, pc, qo, qc⟩ w8 (F4.out.later (HB.out.symm ▸ hHeld.out.1)).cr HP.out.1 (F4.out.later (HB.out.symm ▸ hHeld.out.1)).orw HP.out.2.2.2.1 HP.out.2.2.2.2.1 hz
          rw [HD.out] at CC
          go_simp
          refine CC.mono ?_
          rintro e w6 ⟨x, rfl, o6, b6⟩
          have HE : HeldY w4 B w6 := heldY_call b6 hHeld
          have O6 : Hid (COwnZ w8.heap.size w6 d x ∧ k8 < w8.heap.size) := ⟨o6, N8.out.h.1⟩
          have N8 : Hid (Slot8 B k8 w6) := N8.out.later b6
          clear o6 b6 CC
          first | go_simp | skip
          refine hK.out _ _ HE (fun hHeld => ?_)
          clear hK K
          try simp only [Act.put, List.setIfInBounds_toArray, List.set_cons_zero, List.set_cons_succ]
          refine take_at 8 28 (v := .tuple #[ceV d x, .int .i64 er]) rfl (by kernel_rfl) (by kernel_rfl) (by kernel_rfl) (fun _ _ _ h => h) rfl (by rfl) (fun w hSw => ?hy) hHeld ?_
          case hy =>
            try dsimp only at hSw
            go_simp
          simp only [List.set_cons_zero, List.set_cons_succ]
          refine take_at 9 37 (v := ceV d x) rfl (by kernel_rfl) (by kernel_rfl) (by kernel_rfl) (fun _ _ _ h => h) rfl (by rfl) (fun w hSw => ?hy) hHeld ?_
          case hy =>
            try dsimp only at hSw
            go_simp
          simp only [List.set_cons_zero, List.set_cons_succ]
          refine take_at 10 38 (v := .int .i64 er) rfl (by kernel_rfl) (by kernel_rfl) (by kernel_rfl) (fun _ _ _ h => h) rfl (by rfl) (fun w hSw => ?hy) hHeld ?_
          case hy =>
            try dsimp only at hSw
            go_simp
          simp only [List.set_cons_zero, List.set_cons_succ]
          refine wpAnyH_ready (rs := [12]) (by kernel_rfl) (by simp) ?_
          refine AllReadyH.cons rfl (fun K hK => ?_) AllReadyH.nil
          have HE6 : HeldY w4 B w6 := hHeld
          obtain ⟨s0, s1, s2, s3, s4, s5, s6, s7, s8, s9⟩ := N8.out.h.ten
          obtain ⟨z0, z1, z2, z3, z4, z5, z6, z7, z8, z9⟩ := N8.out.h.tenf
          go_simp
          clear s0 s1 s2 s3 s4 s5 s6 s7 s8 s9 z0 z1 z2 z3 z4 z5 z6 z7 z8 z9
          refine hK.out _ _ (heldY_put N8.out.b hHeld _ _ _ _ _ _ _ _ _ _) (fun hHeld => ?_)
          clear hK K
          try simp only [Act.put, List.setIfInBounds_toArray, List.set_cons_zero, List.set_cons_succ]
          refine take_at 13 9 (v := .int .i64 er) rfl (by kernel_rfl) (by kernel_rfl) (by kernel_rfl) (fun _ _ _ h => h) rfl (by rfl) (fun w hSw => ?hy) hHeld ?_
          case hy =>
            try dsimp only at hSw
            go_simp
          simp only [List.set_cons_zero, List.set_cons_succ]
          refine wpAnyH_done (by kernel_rfl) ?_ _
          go_wp2_with fail
          go_meet
          case rel => exact ⟨_, rfl, rfl, x, endY_put F4.out HB.out HE6 N8.out O6.out.1 O6.out.2⟩
      · go_simp
        have N8 : Hid (Slot8 B w5.heap.size (w5.alloc (.cells #[.int .i64 0, .bool false, .int .i64 0, .int .i64 0, .string ⟨#[]⟩, .int .i64 0, .int .i64 0, .slice none 0 0, .slice none 0 0, .slice none 0 0] 30))) := slot8_new hHeld
        have b8 : Below w5.heap.size w5 (w5.alloc (.cells #[.int .i64 0, .bool false, .int .i64 0, .int .i64 0, .string ⟨#[]⟩, .int .i64 0, .int .i64 0, .slice none 0 0, .slice none 0 0, .slice none 0 0] 30)) := (Below.refl _ _).alloc (Nat.le_refl _) _
        have HE : HeldY w4 B (w5.alloc (.cells #[.int .i64 0, .bool false, .int .i64 0, .int .i64 0, .string ⟨#[]⟩, .int .i64 0, .int .i64 0, .slice none 0 0, .slice none 0 0, .slice none 0 0] 30)) := heldY_call b8 hHeld
        have HT : Hid ((w5.alloc (.cells #[.int .i64 0, .bool false, .int .i64 0, .int .i64 0, .string ⟨#[]⟩, .int .i64 0, .int .i64 0, .slice none 0 0, .slice none 0 0, .slice none 0 0] 30)).cell? ⟨g, 0, none⟩ = some (fnV 54)) := (b8.cell (p := ⟨g, 0, none⟩) (by exact HG.out)).trans HT.out
        clear b8
        refine hK.out _ _ HE (fun hHeld => ?_)
        clear hK K
        try simp only [Act.put, List.setIfInBounds_toArray, List.set_cons_zero, List.set_cons_succ]
        clear HE
        generalize (w5.alloc (.cells #[.int .i64 0, .bool false, .int .i64 0, .int .i64 0, .string ⟨#[]⟩, .int .i64 0, .int .i64 0, .slice none 0 0, .slice none 0 0, .slice none 0 0] 30)) = w8 at hHeld N8 HT ⊢
        generalize w5.heap.size = k8 at N8 ⊢
        refine wpAnyH_ready (rs := [4]) (by kernel_rfl) (by simp) ?_
        refine AllReadyH.cons rfl (fun K hK => ?_) AllReadyH.nil
        have c4 := HT.out
        go_simp
        clear c4
        refine hK.out _ _ hHeld (fun hHeld => ?_)
        clear hK K
        try simp only [Act.put, List.setIfInBounds_toArray, List.set_cons_zero, List.set_cons_succ]
        refine wpAnyH_ready (rs := [7]) (by kernel_rfl) (by simp) ?_
        refine AllReadyH.cons rfl (fun K hK => ?_) AllReadyH.nil
        have CC := chg_0 c p dn ds time deps ty idd field value re im rn rs dots ⟨po, pc, qo, qc⟩ w8 (F4.out.later (HB.out.symm ▸ hHeld.out.1)).cr HP.out.1 (F4.out.later (HB.out.symm ▸ hHeld.out.1)).orw HP.out.2.2.2.1 HP.out.2.2.2.2.1 hz
        rw [HD.out] at CC
        go_simp
        refine CC.mono ?_
        rintro e w6 ⟨x, rfl, o6, b6⟩
        have HE : HeldY w4 B w6 := heldY_call b6 hHeld
        have O6 : Hid (COwnZ w8.heap.size w6 d x ∧ k8 < w8.heap.size) := ⟨o6, N8.out.h.1⟩
        have N8 : Hid (Slot8 B k8 w6) := N8.out.later b6
        clear o6 b6 CC
        first | go_simp | skip
        refine hK.out _ _ HE (fun hHeld => ?_)
        clear hK K
        try simp only [Act.put, List.setIfInBounds_toArray, List.set_cons_zero, List.set_cons_succ]
        refine take_at 8 28 (v := .tuple #[ceV d x, .int .i64 er]) rfl (by kernel_rfl) (by kernel_rfl) (by kernel_rfl) (fun _ _ _ h => h) rfl (by rfl) (fun w hSw => ?hy) hHeld ?_
        case hy =>
          try dsimp only at hSw
          go_simp
        simp only [List.set_cons_zero, List.set_cons_succ]
        refine take_at 9 37 (v := ceV d x) rfl (by kernel_rfl) (by kernel_rfl) (by kernel_rfl) (fun _ _ _ h => h) rfl (by rfl) (fun w hSw => ?hy) hHeld ?_
        case hy =>
          try dsimp only at hSw
          go_simp
        simp only [List.set_cons_zero, List.set_cons_succ]
        refine take_at 10 38 (v := .int .i64 er) rfl (by kernel_rfl) (by kernel_rfl) (by kernel_rfl) (fun _ _ _ h => h) rfl (by rfl) (fun w hSw => ?hy) hHeld ?_
        case hy =>
          try dsimp only at hSw
          go_simp
        simp only [List.set_cons_zero, List.set_cons_succ]
        refine wpAnyH_ready (rs := [12]) (by kernel_rfl) (by simp) ?_
        refine AllReadyH.cons rfl (fun K hK => ?_) AllReadyH.nil
        have HE6 : HeldY w4 B w6 := hHeld
        obtain ⟨s0, s1, s2, s3, s4, s5, s6, s7, s8, s9⟩ := N8.out.h.ten
        obtain ⟨z0, z1, z2, z3, z4, z5, z6, z7, z8, z9⟩ := N8.out.h.tenf
        go_simp
        clear s0 s1 s2 s3 s4 s5 s6 s7 s8 s9 z0 z1 z2 z3 z4 z5 z6 z7 z8 z9
        refine hK.out _ _ (heldY_put N8.out.b hHeld _ _ _ _ _ _ _ _ _ _) (fun hHeld => ?_)
        clear hK K
        try simp only [Act.put, List.setIfInBounds_toArray, List.set_cons_zero, List.set_cons_succ]
        refine take_at 13 9 (v := .int .i64 er) rfl (by kernel_rfl) (by kernel_rfl) (by kernel_rfl) (fun _ _ _ h => h) rfl (by rfl) (fun w hSw => ?hy) hHeld ?_
        case hy =>
          try dsimp only at hSw
          go_simp
        simp only [List.set_cons_zero, List.set_cons_succ]
        refine wpAnyH_done (by kernel_rfl) ?_ _
        go_wp2_with fail
        go_meet
        case rel => exact ⟨_, rfl, rfl, x, endY_put F4.out HB.out HE6 N8.out O6.out.1 O6.out.2⟩
    · go_simp
      have N8 : Hid (Slot8 B w4.heap.size (w4.alloc (.cells #[.int .i64 0, .bool false, .int .i64 0, .int .i64 0, .string ⟨#[]⟩, .int .i64 0, .int .i64 0, .slice none 0 0, .slice none 0 0, .slice none 0 0] 30)).drew) := ⟨(slot8_new (W := w4) ⟨Below.refl _ _, Nat.le_of_eq HB.out.symm⟩).h.later (Below.refl _ _).drew, Nat.le_of_eq HB.out.symm⟩
      have HE : HeldY w4 B (w4.alloc (.cells #[.int .i64 0, .bool false, .int .i64 0, .int .i64 0, .string ⟨#[]⟩, .int .i64 0, .int .i64 0, .slice none 0 0, .slice none 0 0, .slice none 0 0] 30)).drew := (heldY_call ((Below.refl _ _).alloc (Nat.le_refl _) _).drew (W := w4) ⟨Below.refl _ _, Nat.le_of_eq HB.out.symm⟩)
      refine hK.out _ _ HE (fun hHeld => ?_)
      clear hK K
      try simp only [Act.put, List.setIfInBounds_toArray, List.set_cons_zero, List.set_cons_succ]
      clear HE
      generalize (w4.alloc (.cells #[.int .i64 0, .bool false, .int .i64 0, .int .i64 0, .string ⟨#[]⟩, .int .i64 0, .int .i64 0, .slice none 0 0, .slice none 0 0, .slice none 0 0] 30)).drew = w8 at hHeld N8 ⊢
      generalize w4.heap.size = k8 at N8 ⊢
      refine wpAnyH_ready (rs := [0]) (by kernel_rfl) (by simp) ?_
      refine AllReadyH.cons rfl (fun K hK => ?_) AllReadyH.nil
      go_simp
      refine (changes_any _).mono ?_
      rintro e w5 ⟨g, rfl, T5, b5⟩
      have HT : Hid (w5.cell? ⟨g, 0, none⟩ = some (fnV 54)) := T5.at 0 rfl
      have HG : Hid (g < w5.heap.size) := T5.1
      have HE : HeldY w4 B w5 := heldY_call b5 hHeld
      have N8 : Hid (Slot8 B k8 w5) := N8.out.later b5
      clear T5 b5
      first | go_simp | skip
      refine hK.out _ _ HE (fun hHeld => ?_)
      clear hK K
      try simp only [Act.put, List.setIfInBounds_toArray, List.set_cons_zero, List.set_cons_succ]
      refine take_at 3 32 (v := .pointer (some ⟨g, 0, none⟩)) rfl (by kernel_rfl) (by kernel_rfl) (by kernel_rfl) (fun _ _ _ h => h) rfl (by rfl) (fun w hSw => ?hy) hHeld ?_
      case hy =>
        try dsimp only at hSw
        go_simp
      simp only [List.set_cons_zero, List.set_cons_succ]
      refine wpAnyH_ready (rs := [4]) (by kernel_rfl) (by simp) ?_
      refine AllReadyH.cons rfl (fun K hK => ?_) AllReadyH.nil
      have c4 := HT.out
      go_simp
      clear c4
      refine hK.out _ _ hHeld (fun hHeld => ?_)
      clear hK K
      try simp only [Act.put, List.setIfInBounds_toArray, List.set_cons_zero, List.set_cons_succ]
      refine wpAnyH_ready (rs := [7]) (by kernel_rfl) (by simp) ?_
      refine AllReadyH.cons rfl (fun K hK => ?_) AllReadyH.nil
      have CC := chg_0 c p dn ds time deps ty idd field value re im rn rs dots ⟨po, pc, qo, qc⟩ w5 (F4.out.later (HB.out.symm ▸ hHeld.out.1)).cr HP.out.1 (F4.out.later (HB.out.symm ▸ hHeld.out.1)).orw HP.out.2.2.2.1 HP.out.2.2.2.2.1 hz
      rw [HD.out] at CC
      go_simp
      refine CC.mono ?_
      rintro e w6 ⟨x, rfl, o6, b6⟩
      have HE : HeldY w4 B w6 := heldY_call b6 hHeld
      have O6 : Hid (COwnZ w5.heap.size w6 d x ∧ k8 < w5.heap.size) := ⟨o6, N8.out.h.1⟩
      have N8 : Hid (Slot8 B k8 w6) := N8.out.later b6
      clear o6 b6 CC
      first | go_simp | skip
      refine hK.out _ _ HE (fun hHeld => ?_)
      clear hK K
      try simp only [Act.put, List.setIfInBounds_toArray, List.set_cons_zero, List.set_cons_succ]
      refine take_at 8 28 (v := .tuple #[ceV d x, .int .i64 er]) rfl (by kernel_rfl) (by kernel_rfl) (by kernel_rfl) (fun _ _ _ h => h) rfl (by rfl) (fun w hSw => ?hy) hHeld ?_
      case hy =>
        try dsimp only at hSw
        go_simp
      simp only [List.set_cons_zero, List.set_cons_succ]
      refine take_at 9 37 (v := ceV d x) rfl (by kernel_rfl) (by kernel_rfl) (by kernel_rfl) (fun _ _ _ h => h) rfl (by rfl) (fun w hSw => ?hy) hHeld ?_
      case hy =>
        try dsimp only at hSw
        go_simp
      simp only [List.set_cons_zero, List.set_cons_succ]
      refine take_at 10 38 (v := .int .i64 er) rfl (by kernel_rfl) (by kernel_rfl) (by kernel_rfl) (fun _ _ _ h => h) rfl (by rfl) (fun w hSw => ?hy) hHeld ?_
      case hy =>
        try dsimp only at hSw
        go_simp
      simp only [List.set_cons_zero, List.set_cons_succ]
      refine wpAnyH_ready (rs := [12]) (by kernel_rfl) (by simp) ?_
      refine AllReadyH.cons rfl (fun K hK => ?_) AllReadyH.nil
      have HE6 : HeldY w4 B w6 := hHeld
      obtain ⟨s0, s1, s2, s3, s4, s5, s6, s7, s8, s9⟩ := N8.out.h.ten
      obtain ⟨z0, z1, z2, z3, z4, z5, z6, z7, z8, z9⟩ := N8.out.h.tenf
      go_simp
      clear s0 s1 s2 s3 s4 s5 s6 s7 s8 s9 z0 z1 z2 z3 z4 z5 z6 z7 z8 z9
      refine hK.out _ _ (heldY_put N8.out.b hHeld _ _ _ _ _ _ _ _ _ _) (fun hHeld => ?_)
      clear hK K
      try simp only [Act.put, List.setIfInBounds_toArray, List.set_cons_zero, List.set_cons_succ]
      refine take_at 13 9 (v := .int .i64 er) rfl (by kernel_rfl) (by kernel_rfl) (by kernel_rfl) (fun _ _ _ h => h) rfl (by rfl) (fun w hSw => ?hy) hHeld ?_
      case hy =>
        try dsimp only at hSw
        go_simp
      simp only [List.set_cons_zero, List.set_cons_succ]
      refine wpAnyH_done (by kernel_rfl) ?_ _
      go_wp2_with fail
      go_meet
      case rel => exact ⟨_, rfl, rfl, x, endY_put F4.out HB.out HE6 N8.out O6.out.1 O6.out.2⟩
  case rest =>
    obtain ⟨w8, rfl⟩ : ∃ z, z = wc := ⟨_, rfl⟩
    obtain ⟨k8, rfl, rfl, HQ⟩ := hcut
    obtain ⟨x, HX⟩ := HQ.out
    have HE : Hid (EndY w h ⟨dn, ds, time, deps, 0, ty, idd, field, value, re, im, rn, rs, dots⟩ ⟨po, pc, qo, qc⟩ d x k8 w8) := HX
    clear HQ HX F4 HB
    by_cases h0 : er = 0
    · subst h0
      have hA := HA.out
      rw [if_pos rfl] at hA
      have hA1 : seeC d (dn, ds) = A := congrArg Prod.fst hA
      have hA2 : (0 : Int) = ea := congrArg Prod.snd hA
      clear hA HA
      subst hA2
      have hP := opP_of HP.out.2.2.2.2.2.2
      have hsn : d.seen = c.seen := by
        have := eff_seen (c := c) (o := ⟨dn, ds, time, deps, 0, ty, idd, field, value, re, im, rn, rs, dots⟩) (by rw [HD.out])
        rw [HD.out] at this
        exact this
      have hvec : vecB c.seen n = true := by
        have := HP.out.2.2.2.2.2.1
        unfold cmayB at this
        rw [Bool.and_eq_true] at this
        exact this.1
      have hdn := hP.dn
      have hn := (vec_size hvec).1
      clear hP hvec
      obtain ⟨i, rfl⟩ : ∃ i : Nat, dn = i := ⟨dn.toNat, by simp only at hdn; omega⟩
      have hi : i < d.seen.length := by rw [hsn]; simp only at hdn; omega
      clear hdn hn hsn HP HD HK hz
      obtain ⟨b, hx, _, _, hc⟩ := HE.out.own.1.2.2 (by rw [flatI_len]; omega)
      have hv := hc i (.int .i64 (d.seen.getD i 0)) (by simp [flatI, List.getD, hi])
      have c0 := hv.1
      have f0 := hv.2
      clear hc hv
      have hi2 : (i : Int) < (d.seen.length : Int) := by omega
      have y0 := HE.out.op.at 0 rfl
      have y1 := HE.out.op.at 1 rfl
      have c9 := HE.out.cell.at 9 rfl
      rw [hx] at c9
      obtain ⟨v, hv⟩ : ∃ v, d.seen.getD i 0 = v := ⟨_, rfl⟩
      have HS := endY_see (ds := ds) HE.out hx hi
      rw [hv] at HS c0
      have HS2 : Hid (Below h w (w8.setCell ⟨b, i, none⟩ (.int .i64 (max v ds))) ∧ Has (w8.setCell ⟨b, i, none⟩ (.int .i64 (max v ds))) (h + 2) (ceL ce0 pl0) ∧ Has (w8.setCell ⟨b, i, none⟩ (.int .i64 (max v ds))) k8 (ceL (seeC d ((i : Int), ds)) x) ∧ COwn (h + 3) (w8.setCell ⟨b, i, none⟩ (.int .i64 (max v ds))) (seeC d ((i : Int), ds)) x) := HS
      have HA : Hid (seeC d ((i : Int), ds) = A) := hA1
      clear HS hv hA1 HE hx
      go_upto_region 9 with fail
      go_cut [] from 46 to 58 (fun wx => Hid (Below h w wx ∧ Has wx (h + 2) (ceL ce0 pl0) ∧ Has wx k8 (ceL (seeC d ((i : Int), ds)) x) ∧ COwn (h + 3) wx (seeC d ((i : Int), ds)) x))
      case first =>
        go_region
        all_goals
          (go_wp2
           go_meet
           case rel => first | exact HS2 | exact ⟨HS2.out.1.drew, HS2.out.2.1.later (Below.refl _ _).drew, HS2.out.2.2.1.later (Below.refl _ _).drew, HS2.out.2.2.2.later (Below.refl _ _).drew⟩)
      case rest =>
        obtain ⟨w9, rfl⟩ : ∃ z, z = wc := ⟨_, rfl⟩
        have H9 := hcut
        clear HS2 c0 f0 c9 y0 y1 hi2 hcut
        have hA := HA.out
        clear HA
        obtain ⟨D, hD⟩ : ∃ D, seeC d ((i : Int), ds) = D := ⟨_, rfl⟩
        rw [hD] at H9 hA
        subst hA
        have lc := ld_ce H9.out.2.2.1
        obtain ⟨s0, s1, s2, s3, s4, s5, s6, s7, s8, s9⟩ := H9.out.2.1.ten
        obtain ⟨z0, z1, z2, z3, z4, z5, z6, z7, z8, z9⟩ := H9.out.2.1.tenf
        go_wp2_with (refine wpList_ldt lc rfl rfl rfl ?_)
        exact rend (d := D) (q := x) (a := h + 2) (B := h + 3) (r := 6) H9.out.1 H9.out.2.1 H9.out.2.2.2 (by omega) (by omega) rfl rfl rfl rfl
    · have q0 : (er != 0) = true := by simpa using h0
      have hA := HA.out
      rw [if_neg h0] at hA
      have hA1 : ce0 = A := congrArg Prod.fst hA
      have hA2 : er = ea := congrArg Prod.snd hA
      clear hA HA h0 HP HD HK hz
      subst hA2
      subst hA1
      have HR : Hid (Below h w w8 ∧ Has w8 (h + 2) (ceL ce0 pl0)) := ⟨HE.out.base, HE.out.res⟩
      clear HE
      obtain ⟨s0, s1, s2, s3, s4, s5, s6, s7, s8, s9⟩ := HR.out.2.ten
      obtain ⟨z0, z1, z2, z3, z4, z5, z6, z7, z8, z9⟩ := HR.out.2.tenf
      go_wp2_with fail
      exact bodyPost_ret (ret_cell2 rfl rfl rfl (HR.out.2.put10 _ _ _ _ _ _ _ _ _ _)) rfl ⟨pl0, rfl, own_none0 _ _, below_put10 HR.out.1 (by omega) _ _ _ _ _ _ _ _ _ _⟩


set_option maxHeartbeats 4000000 in
set_option maxRecDepth 100000 in
theorem app_1 (c : Ce) (p : Pl) (dn ds time : Int) (deps : List Int) (ty idd field value : ByteArray) (re im rn rs : Int) (dots : List D2) (q : Pq) (n : Int) (w : World) (hr : CRow w c p) (hf : Fit c) (hwf : Wf5 c) (ho : ORow w ⟨dn, ds, time, deps, 1, ty, idd, field, value, re, im, rn, rs, dots⟩ q) (hs : Siz ⟨dn, ds, time, deps, 1, ty, idd, field, value, re, im, rn, rs, dots⟩) (hv : value.size ≤ maxLen) (hd : dots.length * 16 ≤ 140737488355328) (hm : cmayB c n = true) (hmo : mayO ⟨dn, ds, time, deps, 1, ty, idd, field, value, re, im, rn, rs, dots⟩ n = true) (hk : c.kind = 1) (hz : Hid (c.ents = [] ∧ c.elems = [])) :
    Calls Tryz.prog 11 #[ceV c p, oV ⟨dn, ds, time, deps, 1, ty, idd, field, value, re, im, rn, rs, dots⟩ q, .int .i64 n] w fun e w' => ∃ x, e = .returned (.tuple #[ceV (appC c ⟨dn, ds, time, deps, 1, ty, idd, field, value, re, im, rn, rs, dots⟩ n).1 x, .int .i64 (appC c ⟨dn, ds, time, deps, 1, ty, idd, field, value, re, im, rn, rs, dots⟩ n).2]) ∧ COwn w.heap.size w' (appC c ⟨dn, ds, time, deps, 1, ty, idd, field, value, re, im, rn, rs, dots⟩ n).1 x ∧ Below w.heap.size w w' := by
  have hA : appC c ⟨dn, ds, time, deps, 1, ty, idd, field, value, re, im, rn, rs, dots⟩ n = (if (effC c ⟨dn, ds, time, deps, 1, ty, idd, field, value, re, im, rn, rs, dots⟩).2 = 0 then (seeC (effC c ⟨dn, ds, time, deps, 1, ty, idd, field, value, re, im, rn, rs, dots⟩).1 (dn, ds), 0) else (ce0, (effC c ⟨dn, ds, time, deps, 1, ty, idd, field, value, re, im, rn, rs, dots⟩).2)) := by
    unfold appC
    rw [if_pos (by rw [hm, hmo]; rfl), if_pos (by rw [hk]; rfl)]
  obtain ⟨d, er, hD⟩ : ∃ d er, effC c ⟨dn, ds, time, deps, 1, ty, idd, field, value, re, im, rn, rs, dots⟩ = (d, er) := ⟨_, _, rfl⟩
  rw [hD] at hA
  obtain ⟨A, ea, hAE⟩ : ∃ A ea, appC c ⟨dn, ds, time, deps, 1, ty, idd, field, value, re, im, rn, rs, dots⟩ n = (A, ea) := ⟨_, _, rfl⟩
  rw [hAE]
  have HA : Hid ((if er = 0 then (seeC d (dn, ds), (0 : Int)) else (ce0, er)) = (A, ea)) := hA.symm.trans hAE
  have HD : Hid (effC c ⟨dn, ds, time, deps, 1, ty, idd, field, value, re, im, rn, rs, dots⟩ = (d, er)) := hD
  clear hA hD hAE
  obtain ⟨po, pc, qo, qc⟩ := q
  have HP : Hid (Fit c ∧ Wf5 c ∧ Siz ⟨dn, ds, time, deps, 1, ty, idd, field, value, re, im, rn, rs, dots⟩ ∧ value.size ≤ maxLen ∧ dots.length * 16 ≤ 140737488355328 ∧ cmayB c n = true ∧ mayO ⟨dn, ds, time, deps, 1, ty, idd, field, value, re, im, rn, rs, dots⟩ n = true) := ⟨hf, hwf, hs, hv, hd, hm, hmo⟩
  obtain ⟨h, hh⟩ : ∃ h, w.heap.size = h := ⟨_, rfl⟩
  have H0 : Hid (Eff3 w h c p ⟨dn, ds, time, deps, 1, ty, idd, field, value, re, im, rn, rs, dots⟩ ⟨po, pc, qo, qc⟩ (((w.alloc (.cells (ceL c p).toArray 30)).alloc (.cells (oL ⟨dn, ds, time, deps, 1, ty, idd, field, value, re, im, rn, rs, dots⟩ ⟨po, pc, qo, qc⟩).toArray 35)).alloc (.cells #[.int .i64 0, .bool false, .int .i64 0, .int .i64 0, .string ⟨#[]⟩, .int .i64 0, .int .i64 0, .slice none 0 0, .slice none 0 0, .slice none 0 0] 30))) := eff3_new hh hr ho
  rw [hh]
  have HK : Hid (c.kind = 1) := hk
  clear hr hf hwf ho hs hv hd hm hmo hk
  go_enter Tryz.func11, Tryz.ntmps11
  go_upto_region 1 with fail
  generalize hW : ((w.alloc (.cells (ceL c p).toArray 30)).alloc (.cells (oL ⟨dn, ds, time, deps, 1, ty, idd, field, value, re, im, rn, rs, dots⟩ ⟨po, pc, qo, qc⟩).toArray 35)).alloc (.cells #[.int .i64 0, .bool false, .int .i64 0, .int .i64 0, .string ⟨#[]⟩, .int .i64 0, .int .i64 0, .slice none 0 0, .slice none 0 0, .slice none 0 0] 30) = w1 at H0 ⊢
  clear hW
  try simp only [hh]
  clear hh
  have lc := ld_ce H0.out.cell
  have C1 := cmay_any c p n w1 H0.out.cr HP.out.1 HP.out.2.1
  rw [HP.out.2.2.2.2.2.1] at C1
  go_wp2_with (refine wpList_ldt lc rfl rfl rfl ?_)
  refine C1.mono ?_
  rintro e w2 ⟨rfl, b2⟩
  have H2 : Hid (Eff3 w h c p ⟨dn, ds, time, deps, 1, ty, idd, field, value, re, im, rn, rs, dots⟩ ⟨po, pc, qo, qc⟩ w2) := H0.out.later b2
  clear b2 H0 lc C1
  have lo := ld_op H2.out.op
  have C2 := omay_any ⟨dn, ds, time, deps, 1, ty, idd, field, value, re, im, rn, rs, dots⟩ ⟨po, pc, qo, qc⟩ n w2 H2.out.orw HP.out.2.2.1
  rw [HP.out.2.2.2.2.2.2] at C2
  go_wp2_with (refine wpList_ld lo rfl rfl rfl ?_)
  refine C2.mono ?_
  rintro e w3 ⟨rfl, b3⟩
  have H3 : Hid (Eff3 w h c p ⟨dn, ds, time, deps, 1, ty, idd, field, value, re, im, rn, rs, dots⟩ ⟨po, pc, qo, qc⟩ w3) := H2.out.later b3
  clear b3 H2 lo C2
  go_upto_region 3 with fail
  obtain ⟨kk, hkk⟩ : ∃ kk, w3.heap.size = kk := ⟨_, rfl⟩
  have hlt : h < kk := by have := H3.out.res.1; omega
  have hlt1 : h + 1 < kk := by have := H3.out.res.1; omega
  have hne : Nonempty (MW kk w3) := MW.some hkk
  have g0 : ∀ r : MW kk w3, r.w.cell? ⟨h, 0, none⟩ = some (.int .i64 1) := MW.has H3.out.cell hlt (by rw [← HK.out]; rfl)
  have lo := ld_mild H3.out.op hlt1
  have C3 : ∀ r : MW kk w3, Calls Tryz.prog 28 #[oV ⟨dn, ds, time, deps, 1, ty, idd, field, value, re, im, rn, rs, dots⟩ ⟨po, pc, qo, qc⟩] r.w fun e w' => e = .returned (.int .i64 1) ∧ Below r.w.heap.size r.w w' := fun r => okind_any ⟨dn, ds, time, deps, 1, ty, idd, field, value, re, im, rn, rs, dots⟩ ⟨po, pc, qo, qc⟩ r.w
  have HG : Hid (∀ rq : MW kk w3, Eff3 w h c p ⟨dn, ds, time, deps, 1, ty, idd, field, value, re, im, rn, rs, dots⟩ ⟨po, pc, qo, qc⟩ rq.w) := fun rq => H3.out.later (hkk.symm ▸ rq.h.1)
  refine wp_region_mild hkk (by kernel_rfl) (by kernel_rfl) ?_
  refine wpQuiet_ld lo rfl rfl rfl ?_
  try simp only [Act.put, List.setIfInBounds_toArray, List.set_cons_zero, List.set_cons_succ]
  repeat (go_big_quiet_step ((first | (go_at_call 28; refine (C3 _).mono ?_; rintro e w2 ⟨rfl, b⟩; exact ⟨rfl, MW.later _ b⟩))))
  refine wpQuiet_nil ?_
  intro _ hw'
  obtain ⟨rq, rfl⟩ := hw'
  have F4 : Hid (Eff3 w h c p ⟨dn, ds, time, deps, 1, ty, idd, field, value, re, im, rn, rs, dots⟩ ⟨po, pc, qo, qc⟩ rq.w) := HG.out rq
  clear g0 lo C3 H3 HG
  generalize rq.w = w4 at F4 ⊢
  clear rq hne
  clear hkk hlt hlt1
  go_upto_region 5 with fail
  obtain ⟨B, hB⟩ : ∃ B, w4.heap.size = B := ⟨_, rfl⟩
  have HB : Hid (w4.heap.size = B) := hB
  clear hB
  go_cut [8, 9] from 29 to 38 (fun r8 r9 wx => ∃ k8 : Nat, r8 = .pointer (some ⟨k8, 0, none⟩) ∧ r9 = .int .i64 er ∧ Hid (∃ x, EndY w h ⟨dn, ds, time, deps, 1, ty, idd, field, value, re, im, rn, rs, dots⟩ ⟨po, pc, qo, qc⟩ d x k8 wx))
  case first =>
    have HY4 : Hid (∀ W, HeldY w4 B W → W.cell? ⟨h + 1, 4, none⟩ = some (.int .i64 1)) := fun W H => (F4.out.later (HB.out.symm ▸ H.out.1)).op.at 4 rfl
    have HYC : Hid (∀ W, HeldY w4 B W → LdT 30 W h (ceV c p)) := fun W H => ld_ce (F4.out.later (HB.out.symm ▸ H.out.1)).cell
    have HYO : Hid (∀ W, HeldY w4 B W → Ld W (h + 1) (oV ⟨dn, ds, time, deps, 1, ty, idd, field, value, re, im, rn, rs, dots⟩ ⟨po, pc, qo, qc⟩)) := fun W H => ld_op (F4.out.later (HB.out.symm ▸ H.out.1)).op
    refine wp_region_held_drew (S := HeldY w4 B) (by kernel_rfl) ⟨(Below.refl _ _).drew, Nat.le_of_eq HB.out.symm⟩ (fun hHeld => ?_)
    refine take_at 1 30 (v := .pointer (some ⟨h + 1, 4, none⟩)) rfl (by kernel_rfl) (by kernel_rfl) (by kernel_rfl) (fun _ _ _ h => h) rfl (by rfl) (fun w hSw => ?hy) hHeld ?_
    case hy =>
      try dsimp only at hSw
      go_simp
    simp only [List.set_cons_zero, List.set_cons_succ]
    refine take_at 2 31 (v := .int .i64 1) rfl (by kernel_rfl) (by kernel_rfl) (by kernel_rfl) (fun _ _ _ h => h) rfl (by rfl) (fun w hSw => ?hy) hHeld ?_
    case hy =>
      have hc := HY4.out _ hSw
      try dsimp only at hSw
      go_simp
    simp only [List.set_cons_zero, List.set_cons_succ]
    refine take_at 5 34 (v := ceV c p) rfl (by kernel_rfl) (by kernel_rfl) (by kernel_rfl) (fun _ _ _ h => h) rfl (by rfl) (fun w hSw => ?hy) hHeld ?_
    case hy =>
      exact exec_ldt (HYC.out _ hSw) rfl rfl
    simp only [List.set_cons_zero, List.set_cons_succ]
    refine take_at 6 35 (v := oV ⟨dn, ds, time, deps, 1, ty, idd, field, value, re, im, rn, rs, dots⟩ ⟨po, pc, qo, qc⟩) rfl (by kernel_rfl) (by kernel_rfl) (by kernel_rfl) (fun _ _ _ h => h) rfl (by rfl) (fun w hSw => ?hy) hHeld ?_
    case hy =>
      exact exec_ld (HYO.out _ hSw) rfl rfl
    simp only [List.set_cons_zero, List.set_cons_succ]
    refine wpAnyH_ready (rs := [0, 11]) (by kernel_rfl) (by simp) ?_
    refine AllReadyH.cons rfl (fun K hK => ?_) (AllReadyH.cons rfl (fun K hK => ?_) AllReadyH.nil)
    · go_simp
      refine (changes_any _).mono ?_
      rintro e w5 ⟨g, rfl, T5, b5⟩
      have HT : Hid (w5.cell? ⟨g, 1, none⟩ = some (fnV 56)) := T5.at 1 rfl
      have HG : Hid (g < w5.heap.size) := T5.1
      have HE : HeldY w4 B w5 := heldY_call b5 hHeld
      clear T5 b5
      first | go_simp | skip
      refine hK.out _ _ HE (fun hHeld => ?_)
      clear hK K
      try simp only [Act.put, List.setIfInBounds_toArray, List.set_cons_zero, List.set_cons_succ]
      refine take_at 3 32 (v := .pointer (some ⟨g, 1, none⟩)) rfl (by kernel_rfl) (by kernel_rfl) (by kernel_rfl) (fun _ _ _ h => h) rfl (by rfl) (fun w hSw => ?hy) hHeld ?_
      case hy =>
        try dsimp only at hSw
        go_simp
      simp only [List.set_cons_zero, List.set_cons_succ]
      refine wpAnyH_ready (rs := [4, 11]) (by kernel_rfl) (by simp) ?_
      refine AllReadyH.cons rfl (fun K hK => ?_) (AllReadyH.cons rfl (fun K hK => ?_) AllReadyH.nil)
      · have c4 := HT.out
        go_simp
        clear c4
        refine hK.out _ _ hHeld (fun hHeld => ?_)
        clear hK K
        try simp only [Act.put, List.setIfInBounds_toArray, List.set_cons_zero, List.set_cons_succ]
        refine wpAnyH_ready (rs := [7, 11]) (by kernel_rfl) (by simp) ?_
        refine AllReadyH.cons rfl (fun K hK => ?_) (AllReadyH.cons rfl (fun K hK => ?_) AllReadyH.nil)
        · have CC := chg_1 c p dn ds time deps ty idd field value re im rn rs dots ⟨po, pc, qo, qc⟩ w5 (F4.out.later (HB.out.symm ▸ hHeld.out.1)).cr HP.out.1 (F4.out.later (HB.out.symm ▸ hHeld.out.1)).orw HP.out.2.2.2.1 HP.out.2.2.2.2.1 hz
          rw [HD.out] at CC
          go_simp
          refine CC.mono ?_
          rintro e w6 ⟨x, rfl, o6, b6⟩
          have HE : HeldY w4 B w6 := heldY_call b6 hHeld
          have O6 : Hid (COwnZ w5.heap.size w6 d x ∧ B ≤ w5.heap.size) := ⟨o6, hHeld.out.2⟩
          clear o6 b6 CC
          first | go_simp | skip
          refine hK.out _ _ HE (fun hHeld => ?_)
          clear hK K
          try simp only [Act.put, List.setIfInBounds_toArray, List.set_cons_zero, List.set_cons_succ]
          refine take_at 8 28 (v := .tuple #[ceV d x, .int .i64 er]) rfl (by kernel_rfl) (by kernel_rfl) (by kernel_rfl) (fun _ _ _ h => h) rfl (by rfl) (fun w hSw => ?hy) hHeld ?_
          case hy =>
            try dsimp only at hSw
            go_simp
          simp only [List.set_cons_zero, List.set_cons_succ]
          refine take_at 9 37 (v := ceV d x) rfl (by kernel_rfl) (by kernel_rfl) (by kernel_rfl) (fun _ _ _ h => h) rfl (by rfl) (fun w hSw => ?hy) hHeld ?_
          case hy =>
            try dsimp only at hSw
            go_simp
          simp only [List.set_cons_zero, List.set_cons_succ]
          refine take_at 10 38 (v := .int .i64 er) rfl (by kernel_rfl) (by kernel_rfl) (by kernel_rfl) (fun _ _ _ h => h) rfl (by rfl) (fun w hSw => ?hy) hHeld ?_
          case hy =>
            try dsimp only at hSw
            go_simp
          simp only [List.set_cons_zero, List.set_cons_succ]
          refine wpAnyH_ready (rs := [11]) (by kernel_rfl) (by simp) ?_
          refine AllReadyH.cons rfl (fun K hK => ?_) AllReadyH.nil
          go_simp
          have N8 : Hid (Slot8 B w6.heap.size (w6.alloc (.cells #[.int .i64 0, .bool false, .int .i64 0, .int .i64 0, .string ⟨#[]⟩, .int .i64 0, .int .i64 0, .slice none 0 0, .slice none 0 0, .slice none 0 0] 30))) := slot8_new hHeld
          have b8 : Below w6.heap.size w6 (w6.alloc (.cells #[.int .i64 0, .bool false, .int .i64 0, .int .i64 0, .string ⟨#[]⟩, .int .i64 0, .int .i64 0, .slice none 0 0, .slice none 0 0, .slice none 0 0] 30)) := (Below.refl _ _).alloc (Nat.le_refl _) _
          have HE : HeldY w4 B (w6.alloc (.cells #[.int .i64 0, .bool false, .int .i64 0, .int .i64 0, .string ⟨#[]⟩, .int .i64 0, .int .i64 0, .slice none 0 0, .slice none 0 0, .slice none 0 0] 30)) := heldY_call b8 hHeld
          clear b8
          have HE6 : HeldY w4 B w6 := hHeld
          refine hK.out _ _ HE (fun hHeld => ?_)
          clear hK K
          try simp only [Act.put, List.setIfInBounds_toArray, List.set_cons_zero, List.set_cons_succ]
          refine wpAnyH_ready (rs := [12]) (by kernel_rfl) (by simp) ?_
          refine AllReadyH.cons rfl (fun K hK => ?_) AllReadyH.nil
          go_simp
          have HE : HeldY w4 B (w6.alloc (.cells (ceL d x).toArray 30)) := heldY_call ((Below.refl _ _).alloc (Nat.le_refl _) _) HE6
          refine hK.out _ _ HE (fun hHeld => ?_)
          clear hK K
          try simp only [Act.put, List.setIfInBounds_toArray, List.set_cons_zero, List.set_cons_succ]
          refine take_at 13 9 (v := .int .i64 er) rfl (by kernel_rfl) (by kernel_rfl) (by kernel_rfl) (fun _ _ _ h => h) rfl (by rfl) (fun w hSw => ?hy) hHeld ?_
          case hy =>
            try dsimp only at hSw
            go_simp
          simp only [List.set_cons_zero, List.set_cons_succ]
          refine wpAnyH_done (by kernel_rfl) ?_ _
          go_wp2_with fail
          go_meet
          case rel => exact ⟨_, rfl, rfl, x, endY_new F4.out HB.out HE6 O6.out.1 O6.out.2⟩
        · go_simp
          have N8 : Hid (Slot8 B w5.heap.size (w5.alloc (.cells #[.int .i64 0, .bool false, .int .i64 0, .int .i64 0, .string ⟨#[]⟩, .int .i64 0, .int .i64 0, .slice none 0 0, .slice none 0 0, .slice none 0 0] 30))) := slot8_new hHeld
          have b8 : Below w5.heap.size w5 (w5.alloc (.cells #[.int .i64 0, .bool false, .int .i64 0, .int .i64 0, .string ⟨#[]⟩, .int .i64 0, .int .i64 0, .slice none 0 0, .slice none 0 0, .slice none 0 0] 30)) := (Below.refl _ _).alloc (Nat.le_refl _) _
          have HE : HeldY w4 B (w5.alloc (.cells #[.int .i64 0, .bool false, .int .i64 0, .int .i64 0, .string ⟨#[]⟩, .int .i64 0, .int .i64 0, .slice none 0 0, .slice none 0 0, .slice none 0 0] 30)) := heldY_call b8 hHeld
          have HT : Hid ((w5.alloc (.cells #[.int .i64 0, .bool false, .int .i64 0, .int .i64 0, .string ⟨#[]⟩, .int .i64 0, .int .i64 0, .slice none 0 0, .slice none 0 0, .slice none 0 0] 30)).cell? ⟨g, 1, none⟩ = some (fnV 56)) := (b8.cell (p := ⟨g, 1, none⟩) (by exact HG.out)).trans HT.out
          clear b8
          refine hK.out _ _ HE (fun hHeld => ?_)
          clear hK K
          try simp only [Act.put, List.setIfInBounds_toArray, List.set_cons_zero, List.set_cons_succ]
          clear HE
          generalize (w5.alloc (.cells #[.int .i64 0, .bool false, .int .i64 0, .int .i64 0, .string ⟨#[]⟩, .int .i64 0, .int .i64 0, .slice none 0 0, .slice none 0 0, .slice none 0 0] 30)) = w8 at hHeld N8 HT ⊢
          generalize w5.heap.size = k8 at N8 ⊢
          refine wpAnyH_ready (rs := [7]) (by kernel_rfl) (by simp) ?_
          refine AllReadyH.cons rfl (fun K hK => ?_) AllReadyH.nil
          have CC := chg_1 c p dn ds time deps ty idd field value re im rn rs dots ⟨po, pc, qo, qc⟩ w8 (F4.out.later (HB.out.symm ▸ hHeld.out.1)).cr HP.out.1 (F4.out.later (HB.out.symm ▸ hHeld.out.1)).orw HP.out.2.2.2.1 HP.out.2.2.2.2.1 hz
          rw [HD.out] at CC
          go_simp
          refine CC.mono ?_
          rintro e w6 ⟨x, rfl, o6, b6⟩
          have HE : HeldY w4 B w6 := heldY_call b6 hHeld
          have O6 : Hid (COwnZ w8.heap.size w6 d x ∧ k8 < w8.heap.size) := ⟨o6, N8.out.h.1⟩
          have N8 : Hid (Slot8 B k8 w6) := N8.out.later b6
          clear o6 b6 CC
          first | go_simp | skip
          refine hK.out _ _ HE (fun hHeld => ?_)
          clear hK K
          try simp only [Act.put, List.setIfInBounds_toArray, List.set_cons_zero, List.set_cons_succ]
          refine take_at 8 28 (v := .tuple #[ceV d x, .int .i64 er]) rfl (by kernel_rfl) (by kernel_rfl) (by kernel_rfl) (fun _ _ _ h => h) rfl (by rfl) (fun w hSw => ?hy) hHeld ?_
          case hy =>
            try dsimp only at hSw
            go_simp
          simp only [List.set_cons_zero, List.set_cons_succ]
          refine take_at 9 37 (v := ceV d x) rfl (by kernel_rfl) (by kernel_rfl) (by kernel_rfl) (fun _ _ _ h => h) rfl (by rfl) (fun w hSw => ?hy) hHeld ?_
          case hy =>
            try dsimp only at hSw
            go_simp
          simp only [List.set_cons_zero, List.set_cons_succ]
          refine take_at 10 38 (v := .int .i64 er) rfl (by kernel_rfl) (by kernel_rfl) (by kernel_rfl) (fun _ _ _ h => h) rfl (by rfl) (fun w hSw => ?hy) hHeld ?_
          case hy =>
            try dsimp only at hSw
            go_simp
          simp only [List.set_cons_zero, List.set_cons_succ]
          refine wpAnyH_ready (rs := [12]) (by kernel_rfl) (by simp) ?_
          refine AllReadyH.cons rfl (fun K hK => ?_) AllReadyH.nil
          have HE6 : HeldY w4 B w6 := hHeld
          obtain ⟨s0, s1, s2, s3, s4, s5, s6, s7, s8, s9⟩ := N8.out.h.ten
          obtain ⟨z0, z1, z2, z3, z4, z5, z6, z7, z8, z9⟩ := N8.out.h.tenf
          go_simp
          clear s0 s1 s2 s3 s4 s5 s6 s7 s8 s9 z0 z1 z2 z3 z4 z5 z6 z7 z8 z9
          refine hK.out _ _ (heldY_put N8.out.b hHeld _ _ _ _ _ _ _ _ _ _) (fun hHeld => ?_)
          clear hK K
          try simp only [Act.put, List.setIfInBounds_toArray, List.set_cons_zero, List.set_cons_succ]
          refine take_at 13 9 (v := .int .i64 er) rfl (by kernel_rfl) (by kernel_rfl) (by kernel_rfl) (fun _ _ _ h => h) rfl (by rfl) (fun w hSw => ?hy) hHeld ?_
          case hy =>
            try dsimp only at hSw
            go_simp
          simp only [List.set_cons_zero, List.set_cons_succ]
          refine wpAnyH_done (by kernel_rfl) ?_ _
          go_wp2_with fail
          go_meet
          case rel => exact ⟨_, rfl, rfl, x, endY_put F4.out HB.out HE6 N8.out O6.out.1 O6.out.2⟩
      · go_simp
        have N8 : Hid (Slot8 B w5.heap.size (w5.alloc (.cells #[.int .i64 0, .bool false, .int .i64 0, .int .i64 0, .string ⟨#[]⟩, .int .i64 0, .int .i64 0, .slice none 0 0, .slice none 0 0, .slice none 0 0] 30))) := slot8_new hHeld
        have b8 : Below w5.heap.size w5 (w5.alloc (.cells #[.int .i64 0, .bool false, .int .i64 0, .int .i64 0, .string ⟨#[]⟩, .int .i64 0, .int .i64 0, .slice none 0 0, .slice none 0 0, .slice none 0 0] 30)) := (Below.refl _ _).alloc (Nat.le_refl _) _
        have HE : HeldY w4 B (w5.alloc (.cells #[.int .i64 0, .bool false, .int .i64 0, .int .i64 0, .string ⟨#[]⟩, .int .i64 0, .int .i64 0, .slice none 0 0, .slice none 0 0, .slice none 0 0] 30)) := heldY_call b8 hHeld
        have HT : Hid ((w5.alloc (.cells #[.int .i64 0, .bool false, .int .i64 0, .int .i64 0, .string ⟨#[]⟩, .int .i64 0, .int .i64 0, .slice none 0 0, .slice none 0 0, .slice none 0 0] 30)).cell? ⟨g, 1, none⟩ = some (fnV 56)) := (b8.cell (p := ⟨g, 1, none⟩) (by exact HG.out)).trans HT.out
        clear b8
        refine hK.out _ _ HE (fun hHeld => ?_)
        clear hK K
        try simp only [Act.put, List.setIfInBounds_toArray, List.set_cons_zero, List.set_cons_succ]
        clear HE
        generalize (w5.alloc (.cells #[.int .i64 0, .bool false, .int .i64 0, .int .i64 0, .string ⟨#[]⟩, .int .i64 0, .int .i64 0, .slice none 0 0, .slice none 0 0, .slice none 0 0] 30)) = w8 at hHeld N8 HT ⊢
        generalize w5.heap.size = k8 at N8 ⊢
        refine wpAnyH_ready (rs := [4]) (by kernel_rfl) (by simp) ?_
        refine AllReadyH.cons rfl (fun K hK => ?_) AllReadyH.nil
        have c4 := HT.out
        go_simp
        clear c4
        refine hK.out _ _ hHeld (fun hHeld => ?_)
        clear hK K
        try simp only [Act.put, List.setIfInBounds_toArray, List.set_cons_zero, List.set_cons_succ]
        refine wpAnyH_ready (rs := [7]) (by kernel_rfl) (by simp) ?_
        refine AllReadyH.cons rfl (fun K hK => ?_) AllReadyH.nil
        have CC := chg_1 c p dn ds time deps ty idd field value re im rn rs dots ⟨po, pc, qo, qc⟩ w8 (F4.out.later (HB.out.symm ▸ hHeld.out.1)).cr HP.out.1 (F4.out.later (HB.out.symm ▸ hHeld.out.1)).orw HP.out.2.2.2.1 HP.out.2.2.2.2.1 hz
        rw [HD.out] at CC
        go_simp
        refine CC.mono ?_
        rintro e w6 ⟨x, rfl, o6, b6⟩
        have HE : HeldY w4 B w6 := heldY_call b6 hHeld
        have O6 : Hid (COwnZ w8.heap.size w6 d x ∧ k8 < w8.heap.size) := ⟨o6, N8.out.h.1⟩
        have N8 : Hid (Slot8 B k8 w6) := N8.out.later b6
        clear o6 b6 CC
        first | go_simp | skip
        refine hK.out _ _ HE (fun hHeld => ?_)
        clear hK K
        try simp only [Act.put, List.setIfInBounds_toArray, List.set_cons_zero, List.set_cons_succ]
        refine take_at 8 28 (v := .tuple #[ceV d x, .int .i64 er]) rfl (by kernel_rfl) (by kernel_rfl) (by kernel_rfl) (fun _ _ _ h => h) rfl (by rfl) (fun w hSw => ?hy) hHeld ?_
        case hy =>
          try dsimp only at hSw
          go_simp
        simp only [List.set_cons_zero, List.set_cons_succ]
        refine take_at 9 37 (v := ceV d x) rfl (by kernel_rfl) (by kernel_rfl) (by kernel_rfl) (fun _ _ _ h => h) rfl (by rfl) (fun w hSw => ?hy) hHeld ?_
        case hy =>
          try dsimp only at hSw
          go_simp
        simp only [List.set_cons_zero, List.set_cons_succ]
        refine take_at 10 38 (v := .int .i64 er) rfl (by kernel_rfl) (by kernel_rfl) (by kernel_rfl) (fun _ _ _ h => h) rfl (by rfl) (fun w hSw => ?hy) hHeld ?_
        case hy =>
          try dsimp only at hSw
          go_simp
        simp only [List.set_cons_zero, List.set_cons_succ]
        refine wpAnyH_ready (rs := [12]) (by kernel_rfl) (by simp) ?_
        refine AllReadyH.cons rfl (fun K hK => ?_) AllReadyH.nil
        have HE6 : HeldY w4 B w6 := hHeld
        obtain ⟨s0, s1, s2, s3, s4, s5, s6, s7, s8, s9⟩ := N8.out.h.ten
        obtain ⟨z0, z1, z2, z3, z4, z5, z6, z7, z8, z9⟩ := N8.out.h.tenf
        go_simp
        clear s0 s1 s2 s3 s4 s5 s6 s7 s8 s9 z0 z1 z2 z3 z4 z5 z6 z7 z8 z9
        refine hK.out _ _ (heldY_put N8.out.b hHeld _ _ _ _ _ _ _ _ _ _) (fun hHeld => ?_)
        clear hK K
        try simp only [Act.put, List.setIfInBounds_toArray, List.set_cons_zero, List.set_cons_succ]
        refine take_at 13 9 (v := .int .i64 er) rfl (by kernel_rfl) (by kernel_rfl) (by kernel_rfl) (fun _ _ _ h => h) rfl (by rfl) (fun w hSw => ?hy) hHeld ?_
        case hy =>
          try dsimp only at hSw
          go_simp
        simp only [List.set_cons_zero, List.set_cons_succ]
        refine wpAnyH_done (by kernel_rfl) ?_ _
        go_wp2_with fail
        go_meet
        case rel => exact ⟨_, rfl, rfl, x, endY_put F4.out HB.out HE6 N8.out O6.out.1 O6.out.2⟩
    · go_simp
      have N8 : Hid (Slot8 B w4.heap.size (w4.alloc (.cells #[.int .i64 0, .bool false, .int .i64 0, .int .i64 0, .string ⟨#[]⟩, .int .i64 0, .int .i64 0, .slice none 0 0, .slice none 0 0, .slice none 0 0] 30)).drew) := ⟨(slot8_new (W := w4) ⟨Below.refl _ _, Nat.le_of_eq HB.out.symm⟩).h.later (Below.refl _ _).drew, Nat.le_of_eq HB.out.symm⟩
      have HE : HeldY w4 B (w4.alloc (.cells #[.int .i64 0, .bool false, .int .i64 0, .int .i64 0, .string ⟨#[]⟩, .int .i64 0, .int .i64 0, .slice none 0 0, .slice none 0 0, .slice none 0 0] 30)).drew := (heldY_call ((Below.refl _ _).alloc (Nat.le_refl _) _).drew (W := w4) ⟨Below.refl _ _, Nat.le_of_eq HB.out.symm⟩)
      refine hK.out _ _ HE (fun hHeld => ?_)
      clear hK K
      try simp only [Act.put, List.setIfInBounds_toArray, List.set_cons_zero, List.set_cons_succ]
      clear HE
      generalize (w4.alloc (.cells #[.int .i64 0, .bool false, .int .i64 0, .int .i64 0, .string ⟨#[]⟩, .int .i64 0, .int .i64 0, .slice none 0 0, .slice none 0 0, .slice none 0 0] 30)).drew = w8 at hHeld N8 ⊢
      generalize w4.heap.size = k8 at N8 ⊢
      refine wpAnyH_ready (rs := [0]) (by kernel_rfl) (by simp) ?_
      refine AllReadyH.cons rfl (fun K hK => ?_) AllReadyH.nil
      go_simp
      refine (changes_any _).mono ?_
      rintro e w5 ⟨g, rfl, T5, b5⟩
      have HT : Hid (w5.cell? ⟨g, 1, none⟩ = some (fnV 56)) := T5.at 1 rfl
      have HG : Hid (g < w5.heap.size) := T5.1
      have HE : HeldY w4 B w5 := heldY_call b5 hHeld
      have N8 : Hid (Slot8 B k8 w5) := N8.out.later b5
      clear T5 b5
      first | go_simp | skip
      refine hK.out _ _ HE (fun hHeld => ?_)
      clear hK K
      try simp only [Act.put, List.setIfInBounds_toArray, List.set_cons_zero, List.set_cons_succ]
      refine take_at 3 32 (v := .pointer (some ⟨g, 1, none⟩)) rfl (by kernel_rfl) (by kernel_rfl) (by kernel_rfl) (fun _ _ _ h => h) rfl (by rfl) (fun w hSw => ?hy) hHeld ?_
      case hy =>
        try dsimp only at hSw
        go_simp
      simp only [List.set_cons_zero, List.set_cons_succ]
      refine wpAnyH_ready (rs := [4]) (by kernel_rfl) (by simp) ?_
      refine AllReadyH.cons rfl (fun K hK => ?_) AllReadyH.nil
      have c4 := HT.out
      go_simp
      clear c4
      refine hK.out _ _ hHeld (fun hHeld => ?_)
      clear hK K
      try simp only [Act.put, List.setIfInBounds_toArray, List.set_cons_zero, List.set_cons_succ]
      refine wpAnyH_ready (rs := [7]) (by kernel_rfl) (by simp) ?_
      refine AllReadyH.cons rfl (fun K hK => ?_) AllReadyH.nil
      have CC := chg_1 c p dn ds time deps ty idd field value re im rn rs dots ⟨po, pc, qo, qc⟩ w5 (F4.out.later (HB.out.symm ▸ hHeld.out.1)).cr HP.out.1 (F4.out.later (HB.out.symm ▸ hHeld.out.1)).orw HP.out.2.2.2.1 HP.out.2.2.2.2.1 hz
      rw [HD.out] at CC
      go_simp
      refine CC.mono ?_
      rintro e w6 ⟨x, rfl, o6, b6⟩
      have HE : HeldY w4 B w6 := heldY_call b6 hHeld
      have O6 : Hid (COwnZ w5.heap.size w6 d x ∧ k8 < w5.heap.size) := ⟨o6, N8.out.h.1⟩
      have N8 : Hid (Slot8 B k8 w6) := N8.out.later b6
      clear o6 b6 CC
      first | go_simp | skip
      refine hK.out _ _ HE (fun hHeld => ?_)
      clear hK K
      try simp only [Act.put, List.setIfInBounds_toArray, List.set_cons_zero, List.set_cons_succ]
      refine take_at 8 28 (v := .tuple #[ceV d x, .int .i64 er]) rfl (by kernel_rfl) (by kernel_rfl) (by kernel_rfl) (fun _ _ _ h => h) rfl (by rfl) (fun w hSw => ?hy) hHeld ?_
      case hy =>
        try dsimp only at hSw
        go_simp
      simp only [List.set_cons_zero, List.set_cons_succ]
      refine take_at 9 37 (v := ceV d x) rfl (by kernel_rfl) (by kernel_rfl) (by kernel_rfl) (fun _ _ _ h => h) rfl (by rfl) (fun w hSw => ?hy) hHeld ?_
      case hy =>
        try dsimp only at hSw
        go_simp
      simp only [List.set_cons_zero, List.set_cons_succ]
      refine take_at 10 38 (v := .int .i64 er) rfl (by kernel_rfl) (by kernel_rfl) (by kernel_rfl) (fun _ _ _ h => h) rfl (by rfl) (fun w hSw => ?hy) hHeld ?_
      case hy =>
        try dsimp only at hSw
        go_simp
      simp only [List.set_cons_zero, List.set_cons_succ]
      refine wpAnyH_ready (rs := [12]) (by kernel_rfl) (by simp) ?_
      refine AllReadyH.cons rfl (fun K hK => ?_) AllReadyH.nil
      have HE6 : HeldY w4 B w6 := hHeld
      obtain ⟨s0, s1, s2, s3, s4, s5, s6, s7, s8, s9⟩ := N8.out.h.ten
      obtain ⟨z0, z1, z2, z3, z4, z5, z6, z7, z8, z9⟩ := N8.out.h.tenf
      go_simp
      clear s0 s1 s2 s3 s4 s5 s6 s7 s8 s9 z0 z1 z2 z3 z4 z5 z6 z7 z8 z9
      refine hK.out _ _ (heldY_put N8.out.b hHeld _ _ _ _ _ _ _ _ _ _) (fun hHeld => ?_)
      clear hK K
      try simp only [Act.put, List.setIfInBounds_toArray, List.set_cons_zero, List.set_cons_succ]
      refine take_at 13 9 (v := .int .i64 er) rfl (by kernel_rfl) (by kernel_rfl) (by kernel_rfl) (fun _ _ _ h => h) rfl (by rfl) (fun w hSw => ?hy) hHeld ?_
      case hy =>
        try dsimp only at hSw
        go_simp
      simp only [List.set_cons_zero, List.set_cons_succ]
      refine wpAnyH_done (by kernel_rfl) ?_ _
      go_wp2_with fail
      go_meet
      case rel => exact ⟨_, rfl, rfl, x, endY_put F4.out HB.out HE6 N8.out O6.out.1 O6.out.2⟩
  case rest =>
    obtain ⟨w8, rfl⟩ : ∃ z, z = wc := ⟨_, rfl⟩
    obtain ⟨k8, rfl, rfl, HQ⟩ := hcut
    obtain ⟨x, HX⟩ := HQ.out
    have HE : Hid (EndY w h ⟨dn, ds, time, deps, 1, ty, idd, field, value, re, im, rn, rs, dots⟩ ⟨po, pc, qo, qc⟩ d x k8 w8) := HX
    clear HQ HX F4 HB
    by_cases h0 : er = 0
    · subst h0
      have hA := HA.out
      rw [if_pos rfl] at hA
      have hA1 : seeC d (dn, ds) = A := congrArg Prod.fst hA
      have hA2 : (0 : Int) = ea := congrArg Prod.snd hA
      clear hA HA
      subst hA2
      have hP := opP_of HP.out.2.2.2.2.2.2
      have hsn : d.seen = c.seen := by
        have := eff_seen (c := c) (o := ⟨dn, ds, time, deps, 1, ty, idd, field, value, re, im, rn, rs, dots⟩) (by rw [HD.out])
        rw [HD.out] at this
        exact this
      have hvec : vecB c.seen n = true := by
        have := HP.out.2.2.2.2.2.1
        unfold cmayB at this
        rw [Bool.and_eq_true] at this
        exact this.1
      have hdn := hP.dn
      have hn := (vec_size hvec).1
      clear hP hvec
      obtain ⟨i, rfl⟩ : ∃ i : Nat, dn = i := ⟨dn.toNat, by simp only at hdn; omega⟩
      have hi : i < d.seen.length := by rw [hsn]; simp only at hdn; omega
      clear hdn hn hsn HP HD HK hz
      obtain ⟨b, hx, _, _, hc⟩ := HE.out.own.1.2.2 (by rw [flatI_len]; omega)
      have hv := hc i (.int .i64 (d.seen.getD i 0)) (by simp [flatI, List.getD, hi])
      have c0 := hv.1
      have f0 := hv.2
      clear hc hv
      have hi2 : (i : Int) < (d.seen.length : Int) := by omega
      have y0 := HE.out.op.at 0 rfl
      have y1 := HE.out.op.at 1 rfl
      have c9 := HE.out.cell.at 9 rfl
      rw [hx] at c9
      obtain ⟨v, hv⟩ : ∃ v, d.seen.getD i 0 = v := ⟨_, rfl⟩
      have HS := endY_see (ds := ds) HE.out hx hi
      rw [hv] at HS c0
      have HS2 : Hid (Below h w (w8.setCell ⟨b, i, none⟩ (.int .i64 (max v ds))) ∧ Has (w8.setCell ⟨b, i, none⟩ (.int .i64 (max v ds))) (h + 2) (ceL ce0 pl0) ∧ Has (w8.setCell ⟨b, i, none⟩ (.int .i64 (max v ds))) k8 (ceL (seeC d ((i : Int), ds)) x) ∧ COwn (h + 3) (w8.setCell ⟨b, i, none⟩ (.int .i64 (max v ds))) (seeC d ((i : Int), ds)) x) := HS
      have HA : Hid (seeC d ((i : Int), ds) = A) := hA1
      clear HS hv hA1 HE hx
      go_upto_region 9 with fail
      go_cut [] from 46 to 58 (fun wx => Hid (Below h w wx ∧ Has wx (h + 2) (ceL ce0 pl0) ∧ Has wx k8 (ceL (seeC d ((i : Int), ds)) x) ∧ COwn (h + 3) wx (seeC d ((i : Int), ds)) x))
      case first =>
        go_region
        all_goals
          (go_wp2
           go_meet
           case rel => first | exact HS2 | exact ⟨HS2.out.1.drew, HS2.out.2.1.later (Below.refl _ _).drew, HS2.out.2.2.1.later (Below.refl _ _).drew, HS2.out.2.2.2.later (Below.refl _ _).drew⟩)
      case rest =>
        obtain ⟨w9, rfl⟩ : ∃ z, z = wc := ⟨_, rfl⟩
        have H9 := hcut
        clear HS2 c0 f0 c9 y0 y1 hi2 hcut
        have hA := HA.out
        clear HA
        obtain ⟨D, hD⟩ : ∃ D, seeC d ((i : Int), ds) = D := ⟨_, rfl⟩
        rw [hD] at H9 hA
        subst hA
        have lc := ld_ce H9.out.2.2.1
        obtain ⟨s0, s1, s2, s3, s4, s5, s6, s7, s8, s9⟩ := H9.out.2.1.ten
        obtain ⟨z0, z1, z2, z3, z4, z5, z6, z7, z8, z9⟩ := H9.out.2.1.tenf
        go_wp2_with (refine wpList_ldt lc rfl rfl rfl ?_)
        exact rend (d := D) (q := x) (a := h + 2) (B := h + 3) (r := 6) H9.out.1 H9.out.2.1 H9.out.2.2.2 (by omega) (by omega) rfl rfl rfl rfl
    · have q0 : (er != 0) = true := by simpa using h0
      have hA := HA.out
      rw [if_neg h0] at hA
      have hA1 : ce0 = A := congrArg Prod.fst hA
      have hA2 : er = ea := congrArg Prod.snd hA
      clear hA HA h0 HP HD HK hz
      subst hA2
      subst hA1
      have HR : Hid (Below h w w8 ∧ Has w8 (h + 2) (ceL ce0 pl0)) := ⟨HE.out.base, HE.out.res⟩
      clear HE
      obtain ⟨s0, s1, s2, s3, s4, s5, s6, s7, s8, s9⟩ := HR.out.2.ten
      obtain ⟨z0, z1, z2, z3, z4, z5, z6, z7, z8, z9⟩ := HR.out.2.tenf
      go_wp2_with fail
      exact bodyPost_ret (ret_cell2 rfl rfl rfl (HR.out.2.put10 _ _ _ _ _ _ _ _ _ _)) rfl ⟨pl0, rfl, own_none0 _ _, below_put10 HR.out.1 (by omega) _ _ _ _ _ _ _ _ _ _⟩


set_option maxHeartbeats 4000000 in
set_option maxRecDepth 100000 in
theorem app_2 (c : Ce) (p : Pl) (dn ds time : Int) (deps : List Int) (ty idd field value : ByteArray) (re im rn rs : Int) (dots : List D2) (q : Pq) (n : Int) (w : World) (hr : CRow w c p) (hf : Fit c) (hwf : Wf5 c) (ho : ORow w ⟨dn, ds, time, deps, 2, ty, idd, field, value, re, im, rn, rs, dots⟩ q) (hs : Siz ⟨dn, ds, time, deps, 2, ty, idd, field, value, re, im, rn, rs, dots⟩) (hv : value.size ≤ maxLen) (hd : dots.length * 16 ≤ 140737488355328) (hm : cmayB c n = true) (hmo : mayO ⟨dn, ds, time, deps, 2, ty, idd, field, value, re, im, rn, rs, dots⟩ n = true) (hk : c.kind = 2) (hz : Hid (c.elems = [])) :
    Calls Tryz.prog 11 #[ceV c p, oV ⟨dn, ds, time, deps, 2, ty, idd, field, value, re, im, rn, rs, dots⟩ q, .int .i64 n] w fun e w' => ∃ x, e = .returned (.tuple #[ceV (appC c ⟨dn, ds, time, deps, 2, ty, idd, field, value, re, im, rn, rs, dots⟩ n).1 x, .int .i64 (appC c ⟨dn, ds, time, deps, 2, ty, idd, field, value, re, im, rn, rs, dots⟩ n).2]) ∧ COwn w.heap.size w' (appC c ⟨dn, ds, time, deps, 2, ty, idd, field, value, re, im, rn, rs, dots⟩ n).1 x ∧ Below w.heap.size w w' := by
  have hA : appC c ⟨dn, ds, time, deps, 2, ty, idd, field, value, re, im, rn, rs, dots⟩ n = (if (effC c ⟨dn, ds, time, deps, 2, ty, idd, field, value, re, im, rn, rs, dots⟩).2 = 0 then (seeC (effC c ⟨dn, ds, time, deps, 2, ty, idd, field, value, re, im, rn, rs, dots⟩).1 (dn, ds), 0) else (ce0, (effC c ⟨dn, ds, time, deps, 2, ty, idd, field, value, re, im, rn, rs, dots⟩).2)) := by
    unfold appC
    rw [if_pos (by rw [hm, hmo]; rfl), if_pos (by rw [hk]; rfl)]
  obtain ⟨d, er, hD⟩ : ∃ d er, effC c ⟨dn, ds, time, deps, 2, ty, idd, field, value, re, im, rn, rs, dots⟩ = (d, er) := ⟨_, _, rfl⟩
  rw [hD] at hA
  obtain ⟨A, ea, hAE⟩ : ∃ A ea, appC c ⟨dn, ds, time, deps, 2, ty, idd, field, value, re, im, rn, rs, dots⟩ n = (A, ea) := ⟨_, _, rfl⟩
  rw [hAE]
  have HA : Hid ((if er = 0 then (seeC d (dn, ds), (0 : Int)) else (ce0, er)) = (A, ea)) := hA.symm.trans hAE
  have HD : Hid (effC c ⟨dn, ds, time, deps, 2, ty, idd, field, value, re, im, rn, rs, dots⟩ = (d, er)) := hD
  clear hA hD hAE
  obtain ⟨po, pc, qo, qc⟩ := q
  have HP : Hid (Fit c ∧ Wf5 c ∧ Siz ⟨dn, ds, time, deps, 2, ty, idd, field, value, re, im, rn, rs, dots⟩ ∧ value.size ≤ maxLen ∧ dots.length * 16 ≤ 140737488355328 ∧ cmayB c n = true ∧ mayO ⟨dn, ds, time, deps, 2, ty, idd, field, value, re, im, rn, rs, dots⟩ n = true) := ⟨hf, hwf, hs, hv, hd, hm, hmo⟩
  obtain ⟨h, hh⟩ : ∃ h, w.heap.size = h := ⟨_, rfl⟩
  have H0 : Hid (Eff3 w h c p ⟨dn, ds, time, deps, 2, ty, idd, field, value, re, im, rn, rs, dots⟩ ⟨po, pc, qo, qc⟩ (((w.alloc (.cells (ceL c p).toArray 30)).alloc (.cells (oL ⟨dn, ds, time, deps, 2, ty, idd, field, value, re, im, rn, rs, dots⟩ ⟨po, pc, qo, qc⟩).toArray 35)).alloc (.cells #[.int .i64 0, .bool false, .int .i64 0, .int .i64 0, .string ⟨#[]⟩, .int .i64 0, .int .i64 0, .slice none 0 0, .slice none 0 0, .slice none 0 0] 30))) := eff3_new hh hr ho
  rw [hh]
  have HK : Hid (c.kind = 2) := hk
  clear hr hf hwf ho hs hv hd hm hmo hk
  go_enter Tryz.func11, Tryz.ntmps11
  go_upto_region 1 with fail
  generalize hW : ((w.alloc (.cells (ceL c p).toArray 30)).alloc (.cells (oL ⟨dn, ds, time, deps, 2, ty, idd, field, value, re, im, rn, rs, dots⟩ ⟨po, pc, qo, qc⟩).toArray 35)).alloc (.cells #[.int .i64 0, .bool false, .int .i64 0, .int .i64 0, .string ⟨#[]⟩, .int .i64 0, .int .i64 0, .slice none 0 0, .slice none 0 0, .slice none 0 0] 30) = w1 at H0 ⊢
  clear hW
  try simp only [hh]
  clear hh
  have lc := ld_ce H0.out.cell
  have C1 := cmay_any c p n w1 H0.out.cr HP.out.1 HP.out.2.1
  rw [HP.out.2.2.2.2.2.1] at C1
  go_wp2_with (refine wpList_ldt lc rfl rfl rfl ?_)
  refine C1.mono ?_
  rintro e w2 ⟨rfl, b2⟩
  have H2 : Hid (Eff3 w h c p ⟨dn, ds, time, deps, 2, ty, idd, field, value, re, im, rn, rs, dots⟩ ⟨po, pc, qo, qc⟩ w2) := H0.out.later b2
  clear b2 H0 lc C1
  have lo := ld_op H2.out.op
  have C2 := omay_any ⟨dn, ds, time, deps, 2, ty, idd, field, value, re, im, rn, rs, dots⟩ ⟨po, pc, qo, qc⟩ n w2 H2.out.orw HP.out.2.2.1
  rw [HP.out.2.2.2.2.2.2] at C2
  go_wp2_with (refine wpList_ld lo rfl rfl rfl ?_)
  refine C2.mono ?_
  rintro e w3 ⟨rfl, b3⟩
  have H3 : Hid (Eff3 w h c p ⟨dn, ds, time, deps, 2, ty, idd, field, value, re, im, rn, rs, dots⟩ ⟨po, pc, qo, qc⟩ w3) := H2.out.later b3
  clear b3 H2 lo C2
  go_upto_region 3 with fail
  obtain ⟨kk, hkk⟩ : ∃ kk, w3.heap.size = kk := ⟨_, rfl⟩
  have hlt : h < kk := by have := H3.out.res.1; omega
  have hlt1 : h + 1 < kk := by have := H3.out.res.1; omega
  have hne : Nonempty (MW kk w3) := MW.some hkk
  have g0 : ∀ r : MW kk w3, r.w.cell? ⟨h, 0, none⟩ = some (.int .i64 2) := MW.has H3.out.cell hlt (by rw [← HK.out]; rfl)
  have lo := ld_mild H3.out.op hlt1
  have C3 : ∀ r : MW kk w3, Calls Tryz.prog 28 #[oV ⟨dn, ds, time, deps, 2, ty, idd, field, value, re, im, rn, rs, dots⟩ ⟨po, pc, qo, qc⟩] r.w fun e w' => e = .returned (.int .i64 2) ∧ Below r.w.heap.size r.w w' := fun r => okind_any ⟨dn, ds, time, deps, 2, ty, idd, field, value, re, im, rn, rs, dots⟩ ⟨po, pc, qo, qc⟩ r.w
  have HG : Hid (∀ rq : MW kk w3, Eff3 w h c p ⟨dn, ds, time, deps, 2, ty, idd, field, value, re, im, rn, rs, dots⟩ ⟨po, pc, qo, qc⟩ rq.w) := fun rq => H3.out.later (hkk.symm ▸ rq.h.1)
  refine wp_region_mild hkk (by kernel_rfl) (by kernel_rfl) ?_
  refine wpQuiet_ld lo rfl rfl rfl ?_
  try simp only [Act.put, List.setIfInBounds_toArray, List.set_cons_zero, List.set_cons_succ]
  repeat (go_big_quiet_step ((first | (go_at_call 28; refine (C3 _).mono ?_; rintro e w2 ⟨rfl, b⟩; exact ⟨rfl, MW.later _ b⟩))))
  refine wpQuiet_nil ?_
  intro _ hw'
  obtain ⟨rq, rfl⟩ := hw'
  have F4 : Hid (Eff3 w h c p ⟨dn, ds, time, deps, 2, ty, idd, field, value, re, im, rn, rs, dots⟩ ⟨po, pc, qo, qc⟩ rq.w) := HG.out rq
  clear g0 lo C3 H3 HG
  generalize rq.w = w4 at F4 ⊢
  clear rq hne
  clear hkk hlt hlt1
  go_upto_region 5 with fail
  obtain ⟨B, hB⟩ : ∃ B, w4.heap.size = B := ⟨_, rfl⟩
  have HB : Hid (w4.heap.size = B) := hB
  clear hB
  go_cut [8, 9] from 29 to 38 (fun r8 r9 wx => ∃ k8 : Nat, r8 = .pointer (some ⟨k8, 0, none⟩) ∧ r9 = .int .i64 er ∧ Hid (∃ x, EndY w h ⟨dn, ds, time, deps, 2, ty, idd, field, value, re, im, rn, rs, dots⟩ ⟨po, pc, qo, qc⟩ d x k8 wx))
  case first =>
    have HY4 : Hid (∀ W, HeldY w4 B W → W.cell? ⟨h + 1, 4, none⟩ = some (.int .i64 2)) := fun W H => (F4.out.later (HB.out.symm ▸ H.out.1)).op.at 4 rfl
    have HYC : Hid (∀ W, HeldY w4 B W → LdT 30 W h (ceV c p)) := fun W H => ld_ce (F4.out.later (HB.out.symm ▸ H.out.1)).cell
    have HYO : Hid (∀ W, HeldY w4 B W → Ld W (h + 1) (oV ⟨dn, ds, time, deps, 2, ty, idd, field, value, re, im, rn, rs, dots⟩ ⟨po, pc, qo, qc⟩)) := fun W H => ld_op (F4.out.later (HB.out.symm ▸ H.out.1)).op
    refine wp_region_held_drew (S := HeldY w4 B) (by kernel_rfl) ⟨(Below.refl _ _).drew, Nat.le_of_eq HB.out.symm⟩ (fun hHeld => ?_)
    refine take_at 1 30 (v := .pointer (some ⟨h + 1, 4, none⟩)) rfl (by kernel_rfl) (by kernel_rfl) (by kernel_rfl) (fun _ _ _ h => h) rfl (by rfl) (fun w hSw => ?hy) hHeld ?_
    case hy =>
      try dsimp only at hSw
      go_simp
    simp only [List.set_cons_zero, List.set_cons_succ]
    refine take_at 2 31 (v := .int .i64 2) rfl (by kernel_rfl) (by kernel_rfl) (by kernel_rfl) (fun _ _ _ h => h) rfl (by rfl) (fun w hSw => ?hy) hHeld ?_
    case hy =>
      have hc := HY4.out _ hSw
      try dsimp only at hSw
      go_simp
    simp only [List.set_cons_zero, List.set_cons_succ]
    refine take_at 5 34 (v := ceV c p) rfl (by kernel_rfl) (by kernel_rfl) (by kernel_rfl) (fun _ _ _ h => h) rfl (by rfl) (fun w hSw => ?hy) hHeld ?_
    case hy =>
      exact exec_ldt (HYC.out _ hSw) rfl rfl
    simp only [List.set_cons_zero, List.set_cons_succ]
    refine take_at 6 35 (v := oV ⟨dn, ds, time, deps, 2, ty, idd, field, value, re, im, rn, rs, dots⟩ ⟨po, pc, qo, qc⟩) rfl (by kernel_rfl) (by kernel_rfl) (by kernel_rfl) (fun _ _ _ h => h) rfl (by rfl) (fun w hSw => ?hy) hHeld ?_
    case hy =>
      exact exec_ld (HYO.out _ hSw) rfl rfl
    simp only [List.set_cons_zero, List.set_cons_succ]
    refine wpAnyH_ready (rs := [0, 11]) (by kernel_rfl) (by simp) ?_
    refine AllReadyH.cons rfl (fun K hK => ?_) (AllReadyH.cons rfl (fun K hK => ?_) AllReadyH.nil)
    · go_simp
      refine (changes_any _).mono ?_
      rintro e w5 ⟨g, rfl, T5, b5⟩
      have HT : Hid (w5.cell? ⟨g, 2, none⟩ = some (fnV 58)) := T5.at 2 rfl
      have HG : Hid (g < w5.heap.size) := T5.1
      have HE : HeldY w4 B w5 := heldY_call b5 hHeld
      clear T5 b5
      first | go_simp | skip
      refine hK.out _ _ HE (fun hHeld => ?_)
      clear hK K
      try simp only [Act.put, List.setIfInBounds_toArray, List.set_cons_zero, List.set_cons_succ]
      refine take_at 3 32 (v := .pointer (some ⟨g, 2, none⟩)) rfl (by kernel_rfl) (by kernel_rfl) (by kernel_rfl) (fun _ _ _ h => h) rfl (by rfl) (fun w hSw => ?hy) hHeld ?_
      case hy =>
        try dsimp only at hSw
        go_simp
      simp only [List.set_cons_zero, List.set_cons_succ]
      refine wpAnyH_ready (rs := [4, 11]) (by kernel_rfl) (by simp) ?_
      refine AllReadyH.cons rfl (fun K hK => ?_) (AllReadyH.cons rfl (fun K hK => ?_) AllReadyH.nil)
      · have c4 := HT.out
        go_simp
        clear c4
        refine hK.out _ _ hHeld (fun hHeld => ?_)
        clear hK K
        try simp only [Act.put, List.setIfInBounds_toArray, List.set_cons_zero, List.set_cons_succ]
        refine wpAnyH_ready (rs := [7, 11]) (by kernel_rfl) (by simp) ?_
        refine AllReadyH.cons rfl (fun K hK => ?_) (AllReadyH.cons rfl (fun K hK => ?_) AllReadyH.nil)
        · have CC := chg_2 c p dn ds time deps ty idd field value re im rn rs dots ⟨po, pc, qo, qc⟩ w5 (F4.out.later (HB.out.symm ▸ hHeld.out.1)).cr HP.out.1 (F4.out.later (HB.out.symm ▸ hHeld.out.1)).orw HP.out.2.2.2.1 HP.out.2.2.2.2.1 hz
          rw [HD.out] at CC
          go_simp
          refine CC.mono ?_
          rintro e w6 ⟨x, rfl, o6, b6⟩
          have HE : HeldY w4 B w6 := heldY_call b6 hHeld
          have O6 : Hid (COwnZ w5.heap.size w6 d x ∧ B ≤ w5.heap.size) := ⟨o6, hHeld.out.2⟩
          clear o6 b6 CC
          first | go_simp | skip
          refine hK.out _ _ HE (fun hHeld => ?_)
          clear hK K
          try simp only [Act.put, List.setIfInBounds_toArray, List.set_cons_zero, List.set_cons_succ]
          refine take_at 8 28 (v := .tuple #[ceV d x, .int .i64 er]) rfl (by kernel_rfl) (by kernel_rfl) (by kernel_rfl) (fun _ _ _ h => h) rfl (by rfl) (fun w hSw => ?hy) hHeld ?_
          case hy =>
            try dsimp only at hSw
            go_simp
          simp only [List.set_cons_zero, List.set_cons_succ]
          refine take_at 9 37 (v := ceV d x) rfl (by kernel_rfl) (by kernel_rfl) (by kernel_rfl) (fun _ _ _ h => h) rfl (by rfl) (fun w hSw => ?hy) hHeld ?_
          case hy =>
            try dsimp only at hSw
            go_simp
          simp only [List.set_cons_zero, List.set_cons_succ]
          refine take_at 10 38 (v := .int .i64 er) rfl (by kernel_rfl) (by kernel_rfl) (by kernel_rfl) (fun _ _ _ h => h) rfl (by rfl) (fun w hSw => ?hy) hHeld ?_
          case hy =>
            try dsimp only at hSw
            go_simp
          simp only [List.set_cons_zero, List.set_cons_succ]
          refine wpAnyH_ready (rs := [11]) (by kernel_rfl) (by simp) ?_
          refine AllReadyH.cons rfl (fun K hK => ?_) AllReadyH.nil
          go_simp
          have N8 : Hid (Slot8 B w6.heap.size (w6.alloc (.cells #[.int .i64 0, .bool false, .int .i64 0, .int .i64 0, .string ⟨#[]⟩, .int .i64 0, .int .i64 0, .slice none 0 0, .slice none 0 0, .slice none 0 0] 30))) := slot8_new hHeld
          have b8 : Below w6.heap.size w6 (w6.alloc (.cells #[.int .i64 0, .bool false, .int .i64 0, .int .i64 0, .string ⟨#[]⟩, .int .i64 0, .int .i64 0, .slice none 0 0, .slice none 0 0, .slice none 0 0] 30)) := (Below.refl _ _).alloc (Nat.le_refl _) _
          have HE : HeldY w4 B (w6.alloc (.cells #[.int .i64 0, .bool false, .int .i64 0, .int .i64 0, .string ⟨#[]⟩, .int .i64 0, .int .i64 0, .slice none 0 0, .slice none 0 0, .slice none 0 0] 30)) := heldY_call b8 hHeld
          clear b8
          have HE6 : HeldY w4 B w6 := hHeld
          refine hK.out _ _ HE (fun hHeld => ?_)
          clear hK K
          try simp only [Act.put, List.setIfInBounds_toArray, List.set_cons_zero, List.set_cons_succ]
          refine wpAnyH_ready (rs := [12]) (by kernel_rfl) (by simp) ?_
          refine AllReadyH.cons rfl (fun K hK => ?_) AllReadyH.nil
          go_simp
          have HE : HeldY w4 B (w6.alloc (.cells (ceL d x).toArray 30)) := heldY_call ((Below.refl _ _).alloc (Nat.le_refl _) _) HE6
          refine hK.out _ _ HE (fun hHeld => ?_)
          clear hK K
          try simp only [Act.put, List.setIfInBounds_toArray, List.set_cons_zero, List.set_cons_succ]
          refine take_at 13 9 (v := .int .i64 er) rfl (by kernel_rfl) (by kernel_rfl) (by kernel_rfl) (fun _ _ _ h => h) rfl (by rfl) (fun w hSw => ?hy) hHeld ?_
          case hy =>
            try dsimp only at hSw
            go_simp
          simp only [List.set_cons_zero, List.set_cons_succ]
          refine wpAnyH_done (by kernel_rfl) ?_ _
          go_wp2_with fail
          go_meet
          case rel => exact ⟨_, rfl, rfl, x, endY_new F4.out HB.out HE6 O6.out.1 O6.out.2⟩
        · go_simp
          have N8 : Hid (Slot8 B w5.heap.size (w5.alloc (.cells #[.int .i64 0, .bool false, .int .i64 0, .int .i64 0, .string ⟨#[]⟩, .int .i64 0, .int .i64 0, .slice none 0 0, .slice none 0 0, .slice none 0 0] 30))) := slot8_new hHeld
          have b8 : Below w5.heap.size w5 (w5.alloc (.cells #[.int .i64 0, .bool false, .int .i64 0, .int .i64 0, .string ⟨#[]⟩, .int .i64 0, .int .i64 0, .slice none 0 0, .slice none 0 0, .slice none 0 0] 30)) := (Below.refl _ _).alloc (Nat.le_refl _) _
          have HE : HeldY w4 B (w5.alloc (.cells #[.int .i64 0, .bool false, .int .i64 0, .int .i64 0, .string ⟨#[]⟩, .int .i64 0, .int .i64 0, .slice none 0 0, .slice none 0 0, .slice none 0 0] 30)) := heldY_call b8 hHeld
          have HT : Hid ((w5.alloc (.cells #[.int .i64 0, .bool false, .int .i64 0, .int .i64 0, .string ⟨#[]⟩, .int .i64 0, .int .i64 0, .slice none 0 0, .slice none 0 0, .slice none 0 0] 30)).cell? ⟨g, 2, none⟩ = some (fnV 58)) := (b8.cell (p := ⟨g, 2, none⟩) (by exact HG.out)).trans HT.out
          clear b8
          refine hK.out _ _ HE (fun hHeld => ?_)
          clear hK K
          try simp only [Act.put, List.setIfInBounds_toArray, List.set_cons_zero, List.set_cons_succ]
          clear HE
          generalize (w5.alloc (.cells #[.int .i64 0, .bool false, .int .i64 0, .int .i64 0, .string ⟨#[]⟩, .int .i64 0, .int .i64 0, .slice none 0 0, .slice none 0 0, .slice none 0 0] 30)) = w8 at hHeld N8 HT ⊢
          generalize w5.heap.size = k8 at N8 ⊢
          refine wpAnyH_ready (rs := [7]) (by kernel_rfl) (by simp) ?_
          refine AllReadyH.cons rfl (fun K hK => ?_) AllReadyH.nil
          have CC := chg_2 c p dn ds time deps ty idd field value re im rn rs dots ⟨po, pc, qo, qc⟩ w8 (F4.out.later (HB.out.symm ▸ hHeld.out.1)).cr HP.out.1 (F4.out.later (HB.out.symm ▸ hHeld.out.1)).orw HP.out.2.2.2.1 HP.out.2.2.2.2.1 hz
          rw [HD.out] at CC
          go_simp
          refine CC.mono ?_
          rintro e w6 ⟨x, rfl, o6, b6⟩
          have HE : HeldY w4 B w6 := heldY_call b6 hHeld
          have O6 : Hid (COwnZ w8.heap.size w6 d x ∧ k8 < w8.heap.size) := ⟨o6, N8.out.h.1⟩
          have N8 : Hid (Slot8 B k8 w6) := N8.out.later b6
          clear o6 b6 CC
          first | go_simp | skip
          refine hK.out _ _ HE (fun hHeld => ?_)
          clear hK K
          try simp only [Act.put, List.setIfInBounds_toArray, List.set_cons_zero, List.set_cons_succ]
          refine take_at 8 28 (v := .tuple #[ceV d x, .int .i64 er]) rfl (by kernel_rfl) (by kernel_rfl) (by kernel_rfl) (fun _ _ _ h => h) rfl (by rfl) (fun w hSw => ?hy) hHeld ?_
          case hy =>
            try dsimp only at hSw
            go_simp
          simp only [List.set_cons_zero, List.set_cons_succ]
          refine take_at 9 37 (v := ceV d x) rfl (by kernel_rfl) (by kernel_rfl) (by kernel_rfl) (fun _ _ _ h => h) rfl (by rfl) (fun w hSw => ?hy) hHeld ?_
          case hy =>
            try dsimp only at hSw
            go_simp
          simp only [List.set_cons_zero, List.set_cons_succ]
          refine take_at 10 38 (v := .int .i64 er) rfl (by kernel_rfl) (by kernel_rfl) (by kernel_rfl) (fun _ _ _ h => h) rfl (by rfl) (fun w hSw => ?hy) hHeld ?_
          case hy =>
            try dsimp only at hSw
            go_simp
          simp only [List.set_cons_zero, List.set_cons_succ]
          refine wpAnyH_ready (rs := [12]) (by kernel_rfl) (by simp) ?_
          refine AllReadyH.cons rfl (fun K hK => ?_) AllReadyH.nil
          have HE6 : HeldY w4 B w6 := hHeld
          obtain ⟨s0, s1, s2, s3, s4, s5, s6, s7, s8, s9⟩ := N8.out.h.ten
          obtain ⟨z0, z1, z2, z3, z4, z5, z6, z7, z8, z9⟩ := N8.out.h.tenf
          go_simp
          clear s0 s1 s2 s3 s4 s5 s6 s7 s8 s9 z0 z1 z2 z3 z4 z5 z6 z7 z8 z9
          refine hK.out _ _ (heldY_put N8.out.b hHeld _ _ _ _ _ _ _ _ _ _) (fun hHeld => ?_)
          clear hK K
          try simp only [Act.put, List.setIfInBounds_toArray, List.set_cons_zero, List.set_cons_succ]
          refine take_at 13 9 (v := .int .i64 er) rfl (by kernel_rfl) (by kernel_rfl) (by kernel_rfl) (fun _ _ _ h => h) rfl (by rfl) (fun w hSw => ?hy) hHeld ?_
          case hy =>
            try dsimp only at hSw
            go_simp
          simp only [List.set_cons_zero, List.set_cons_succ]
          refine wpAnyH_done (by kernel_rfl) ?_ _
          go_wp2_with fail
          go_meet
          case rel => exact ⟨_, rfl, rfl, x, endY_put F4.out HB.out HE6 N8.out O6.out.1 O6.out.2⟩
      · go_simp
        have N8 : Hid (Slot8 B w5.heap.size (w5.alloc (.cells #[.int .i64 0, .bool false, .int .i64 0, .int .i64 0, .string ⟨#[]⟩, .int .i64 0, .int .i64 0, .slice none 0 0, .slice none 0 0, .slice none 0 0] 30))) := slot8_new hHeld
        have b8 : Below w5.heap.size w5 (w5.alloc (.cells #[.int .i64 0, .bool false, .int .i64 0, .int .i64 0, .string ⟨#[]⟩, .int .i64 0, .int .i64 0, .slice none 0 0, .slice none 0 0, .slice none 0 0] 30)) := (Below.refl _ _).alloc (Nat.le_refl _) _
        have HE : HeldY w4 B (w5.alloc (.cells #[.int .i64 0, .bool false, .int .i64 0, .int .i64 0, .string ⟨#[]⟩, .int .i64 0, .int .i64 0, .slice none 0 0, .slice none 0 0, .slice none 0 0] 30)) := heldY_call b8 hHeld
        have HT : Hid ((w5.alloc (.cells #[.int .i64 0, .bool false, .int .i64 0, .int .i64 0, .string ⟨#[]⟩, .int .i64 0, .int .i64 0, .slice none 0 0, .slice none 0 0, .slice none 0 0] 30)).cell? ⟨g, 2, none⟩ = some (fnV 58)) := (b8.cell (p := ⟨g, 2, none⟩) (by exact HG.out)).trans HT.out
        clear b8
        refine hK.out _ _ HE (fun hHeld => ?_)
        clear hK K
        try simp only [Act.put, List.setIfInBounds_toArray, List.set_cons_zero, List.set_cons_succ]
        clear HE
        generalize (w5.alloc (.cells #[.int .i64 0, .bool false, .int .i64 0, .int .i64 0, .string ⟨#[]⟩, .int .i64 0, .int .i64 0, .slice none 0 0, .slice none 0 0, .slice none 0 0] 30)) = w8 at hHeld N8 HT ⊢
        generalize w5.heap.size = k8 at N8 ⊢
        refine wpAnyH_ready (rs := [4]) (by kernel_rfl) (by simp) ?_
        refine AllReadyH.cons rfl (fun K hK => ?_) AllReadyH.nil
        have c4 := HT.out
        go_simp
        clear c4
        refine hK.out _ _ hHeld (fun hHeld => ?_)
        clear hK K
        try simp only [Act.put, List.setIfInBounds_toArray, List.set_cons_zero, List.set_cons_succ]
        refine wpAnyH_ready (rs := [7]) (by kernel_rfl) (by simp) ?_
        refine AllReadyH.cons rfl (fun K hK => ?_) AllReadyH.nil
        have CC := chg_2 c p dn ds time deps ty idd field value re im rn rs dots ⟨po, pc, qo, qc⟩ w8 (F4.out.later (HB.out.symm ▸ hHeld.out.1)).cr HP.out.1 (F4.out.later (HB.out.symm ▸ hHeld.out.1)).orw HP.out.2.2.2.1 HP.out.2.2.2.2.1 hz
        rw [HD.out] at CC
        go_simp
        refine CC.mono ?_
        rintro e w6 ⟨x, rfl, o6, b6⟩
        have HE : HeldY w4 B w6 := heldY_call b6 hHeld
        have O6 : Hid (COwnZ w8.heap.size w6 d x ∧ k8 < w8.heap.size) := ⟨o6, N8.out.h.1⟩
        have N8 : Hid (Slot8 B k8 w6) := N8.out.later b6
        clear o6 b6 CC
        first | go_simp | skip
        refine hK.out _ _ HE (fun hHeld => ?_)
        clear hK K
        try simp only [Act.put, List.setIfInBounds_toArray, List.set_cons_zero, List.set_cons_succ]
        refine take_at 8 28 (v := .tuple #[ceV d x, .int .i64 er]) rfl (by kernel_rfl) (by kernel_rfl) (by kernel_rfl) (fun _ _ _ h => h) rfl (by rfl) (fun w hSw => ?hy) hHeld ?_
        case hy =>
          try dsimp only at hSw
          go_simp
        simp only [List.set_cons_zero, List.set_cons_succ]
        refine take_at 9 37 (v := ceV d x) rfl (by kernel_rfl) (by kernel_rfl) (by kernel_rfl) (fun _ _ _ h => h) rfl (by rfl) (fun w hSw => ?hy) hHeld ?_
        case hy =>
          try dsimp only at hSw
          go_simp
        simp only [List.set_cons_zero, List.set_cons_succ]
        refine take_at 10 38 (v := .int .i64 er) rfl (by kernel_rfl) (by kernel_rfl) (by kernel_rfl) (fun _ _ _ h => h) rfl (by rfl) (fun w hSw => ?hy) hHeld ?_
        case hy =>
          try dsimp only at hSw
          go_simp
        simp only [List.set_cons_zero, List.set_cons_succ]
        refine wpAnyH_ready (rs := [12]) (by kernel_rfl) (by simp) ?_
        refine AllReadyH.cons rfl (fun K hK => ?_) AllReadyH.nil
        have HE6 : HeldY w4 B w6 := hHeld
        obtain ⟨s0, s1, s2, s3, s4, s5, s6, s7, s8, s9⟩ := N8.out.h.ten
        obtain ⟨z0, z1, z2, z3, z4, z5, z6, z7, z8, z9⟩ := N8.out.h.tenf
        go_simp
        clear s0 s1 s2 s3 s4 s5 s6 s7 s8 s9 z0 z1 z2 z3 z4 z5 z6 z7 z8 z9
        refine hK.out _ _ (heldY_put N8.out.b hHeld _ _ _ _ _ _ _ _ _ _) (fun hHeld => ?_)
        clear hK K
        try simp only [Act.put, List.setIfInBounds_toArray, List.set_cons_zero, List.set_cons_succ]
        refine take_at 13 9 (v := .int .i64 er) rfl (by kernel_rfl) (by kernel_rfl) (by kernel_rfl) (fun _ _ _ h => h) rfl (by rfl) (fun w hSw => ?hy) hHeld ?_
        case hy =>
          try dsimp only at hSw
          go_simp
        simp only [List.set_cons_zero, List.set_cons_succ]
        refine wpAnyH_done (by kernel_rfl) ?_ _
        go_wp2_with fail
        go_meet
        case rel => exact ⟨_, rfl, rfl, x, endY_put F4.out HB.out HE6 N8.out O6.out.1 O6.out.2⟩
    · go_simp
      have N8 : Hid (Slot8 B w4.heap.size (w4.alloc (.cells #[.int .i64 0, .bool false, .int .i64 0, .int .i64 0, .string ⟨#[]⟩, .int .i64 0, .int .i64 0, .slice none 0 0, .slice none 0 0, .slice none 0 0] 30)).drew) := ⟨(slot8_new (W := w4) ⟨Below.refl _ _, Nat.le_of_eq HB.out.symm⟩).h.later (Below.refl _ _).drew, Nat.le_of_eq HB.out.symm⟩
      have HE : HeldY w4 B (w4.alloc (.cells #[.int .i64 0, .bool false, .int .i64 0, .int .i64 0, .string ⟨#[]⟩, .int .i64 0, .int .i64 0, .slice none 0 0, .slice none 0 0, .slice none 0 0] 30)).drew := (heldY_call ((Below.refl _ _).alloc (Nat.le_refl _) _).drew (W := w4) ⟨Below.refl _ _, Nat.le_of_eq HB.out.symm⟩)
      refine hK.out _ _ HE (fun hHeld => ?_)
      clear hK K
      try simp only [Act.put, List.setIfInBounds_toArray, List.set_cons_zero, List.set_cons_succ]
      clear HE
      generalize (w4.alloc (.cells #[.int .i64 0, .bool false, .int .i64 0, .int .i64 0, .string ⟨#[]⟩, .int .i64 0, .int .i64 0, .slice none 0 0, .slice none 0 0, .slice none 0 0] 30)).drew = w8 at hHeld N8 ⊢
      generalize w4.heap.size = k8 at N8 ⊢
      refine wpAnyH_ready (rs := [0]) (by kernel_rfl) (by simp) ?_
      refine AllReadyH.cons rfl (fun K hK => ?_) AllReadyH.nil
      go_simp
      refine (changes_any _).mono ?_
      rintro e w5 ⟨g, rfl, T5, b5⟩
      have HT : Hid (w5.cell? ⟨g, 2, none⟩ = some (fnV 58)) := T5.at 2 rfl
      have HG : Hid (g < w5.heap.size) := T5.1
      have HE : HeldY w4 B w5 := heldY_call b5 hHeld
      have N8 : Hid (Slot8 B k8 w5) := N8.out.later b5
      clear T5 b5
      first | go_simp | skip
      refine hK.out _ _ HE (fun hHeld => ?_)
      clear hK K
      try simp only [Act.put, List.setIfInBounds_toArray, List.set_cons_zero, List.set_cons_succ]
      refine take_at 3 32 (v := .pointer (some ⟨g, 2, none⟩)) rfl (by kernel_rfl) (by kernel_rfl) (by kernel_rfl) (fun _ _ _ h => h) rfl (by rfl) (fun w hSw => ?hy) hHeld ?_
      case hy =>
        try dsimp only at hSw
        go_simp
      simp only [List.set_cons_zero, List.set_cons_succ]
      refine wpAnyH_ready (rs := [4]) (by kernel_rfl) (by simp) ?_
      refine AllReadyH.cons rfl (fun K hK => ?_) AllReadyH.nil
      have c4 := HT.out
      go_simp
      clear c4
      refine hK.out _ _ hHeld (fun hHeld => ?_)
      clear hK K
      try simp only [Act.put, List.setIfInBounds_toArray, List.set_cons_zero, List.set_cons_succ]
      refine wpAnyH_ready (rs := [7]) (by kernel_rfl) (by simp) ?_
      refine AllReadyH.cons rfl (fun K hK => ?_) AllReadyH.nil
      have CC := chg_2 c p dn ds time deps ty idd field value re im rn rs dots ⟨po, pc, qo, qc⟩ w5 (F4.out.later (HB.out.symm ▸ hHeld.out.1)).cr HP.out.1 (F4.out.later (HB.out.symm ▸ hHeld.out.1)).orw HP.out.2.2.2.1 HP.out.2.2.2.2.1 hz
      rw [HD.out] at CC
      go_simp
      refine CC.mono ?_
      rintro e w6 ⟨x, rfl, o6, b6⟩
      have HE : HeldY w4 B w6 := heldY_call b6 hHeld
      have O6 : Hid (COwnZ w5.heap.size w6 d x ∧ k8 < w5.heap.size) := ⟨o6, N8.out.h.1⟩
      have N8 : Hid (Slot8 B k8 w6) := N8.out.later b6
      clear o6 b6 CC
      first | go_simp | skip
      refine hK.out _ _ HE (fun hHeld => ?_)
      clear hK K
      try simp only [Act.put, List.setIfInBounds_toArray, List.set_cons_zero, List.set_cons_succ]
      refine take_at 8 28 (v := .tuple #[ceV d x, .int .i64 er]) rfl (by kernel_rfl) (by kernel_rfl) (by kernel_rfl) (fun _ _ _ h => h) rfl (by rfl) (fun w hSw => ?hy) hHeld ?_
      case hy =>
        try dsimp only at hSw
        go_simp
      simp only [List.set_cons_zero, List.set_cons_succ]
      refine take_at 9 37 (v := ceV d x) rfl (by kernel_rfl) (by kernel_rfl) (by kernel_rfl) (fun _ _ _ h => h) rfl (by rfl) (fun w hSw => ?hy) hHeld ?_
      case hy =>
        try dsimp only at hSw
        go_simp
      simp only [List.set_cons_zero, List.set_cons_succ]
      refine take_at 10 38 (v := .int .i64 er) rfl (by kernel_rfl) (by kernel_rfl) (by kernel_rfl) (fun _ _ _ h => h) rfl (by rfl) (fun w hSw => ?hy) hHeld ?_
      case hy =>
        try dsimp only at hSw
        go_simp
      simp only [List.set_cons_zero, List.set_cons_succ]
      refine wpAnyH_ready (rs := [12]) (by kernel_rfl) (by simp) ?_
      refine AllReadyH.cons rfl (fun K hK => ?_) AllReadyH.nil
      have HE6 : HeldY w4 B w6 := hHeld
      obtain ⟨s0, s1, s2, s3, s4, s5, s6, s7, s8, s9⟩ := N8.out.h.ten
      obtain ⟨z0, z1, z2, z3, z4, z5, z6, z7, z8, z9⟩ := N8.out.h.tenf
      go_simp
      clear s0 s1 s2 s3 s4 s5 s6 s7 s8 s9 z0 z1 z2 z3 z4 z5 z6 z7 z8 z9
      refine hK.out _ _ (heldY_put N8.out.b hHeld _ _ _ _ _ _ _ _ _ _) (fun hHeld => ?_)
      clear hK K
      try simp only [Act.put, List.setIfInBounds_toArray, List.set_cons_zero, List.set_cons_succ]
      refine take_at 13 9 (v := .int .i64 er) rfl (by kernel_rfl) (by kernel_rfl) (by kernel_rfl) (fun _ _ _ h => h) rfl (by rfl) (fun w hSw => ?hy) hHeld ?_
      case hy =>
        try dsimp only at hSw
        go_simp
      simp only [List.set_cons_zero, List.set_cons_succ]
      refine wpAnyH_done (by kernel_rfl) ?_ _
      go_wp2_with fail
      go_meet
      case rel => exact ⟨_, rfl, rfl, x, endY_put F4.out HB.out HE6 N8.out O6.out.1 O6.out.2⟩
  case rest =>
    obtain ⟨w8, rfl⟩ : ∃ z, z = wc := ⟨_, rfl⟩
    obtain ⟨k8, rfl, rfl, HQ⟩ := hcut
    obtain ⟨x, HX⟩ := HQ.out
    have HE : Hid (EndY w h ⟨dn, ds, time, deps, 2, ty, idd, field, value, re, im, rn, rs, dots⟩ ⟨po, pc, qo, qc⟩ d x k8 w8) := HX
    clear HQ HX F4 HB
    by_cases h0 : er = 0
    · subst h0
      have hA := HA.out
      rw [if_pos rfl] at hA
      have hA1 : seeC d (dn, ds) = A := congrArg Prod.fst hA
      have hA2 : (0 : Int) = ea := congrArg Prod.snd hA
      clear hA HA
      subst hA2
      have hP := opP_of HP.out.2.2.2.2.2.2
      have hsn : d.seen = c.seen := by
        have := eff_seen (c := c) (o := ⟨dn, ds, time, deps, 2, ty, idd, field, value, re, im, rn, rs, dots⟩) (by rw [HD.out])
        rw [HD.out] at this
        exact this
      have hvec : vecB c.seen n = true := by
        have := HP.out.2.2.2.2.2.1
        unfold cmayB at this
        rw [Bool.and_eq_true] at this
        exact this.1
      have hdn := hP.dn
      have hn := (vec_size hvec).1
      clear hP hvec
      obtain ⟨i, rfl⟩ : ∃ i : Nat, dn = i := ⟨dn.toNat, by simp only at hdn; omega⟩
      have hi : i < d.seen.length := by rw [hsn]; simp only at hdn; omega
      clear hdn hn hsn HP HD HK hz
      obtain ⟨b, hx, _, _, hc⟩ := HE.out.own.1.2.2 (by rw [flatI_len]; omega)
      have hv := hc i (.int .i64 (d.seen.getD i 0)) (by simp [flatI, List.getD, hi])
      have c0 := hv.1
      have f0 := hv.2
      clear hc hv
      have hi2 : (i : Int) < (d.seen.length : Int) := by omega
      have y0 := HE.out.op.at 0 rfl
      have y1 := HE.out.op.at 1 rfl
      have c9 := HE.out.cell.at 9 rfl
      rw [hx] at c9
      obtain ⟨v, hv⟩ : ∃ v, d.seen.getD i 0 = v := ⟨_, rfl⟩
      have HS := endY_see (ds := ds) HE.out hx hi
      rw [hv] at HS c0
      have HS2 : Hid (Below h w (w8.setCell ⟨b, i, none⟩ (.int .i64 (max v ds))) ∧ Has (w8.setCell ⟨b, i, none⟩ (.int .i64 (max v ds))) (h + 2) (ceL ce0 pl0) ∧ Has (w8.setCell ⟨b, i, none⟩ (.int .i64 (max v ds))) k8 (ceL (seeC d ((i : Int), ds)) x) ∧ COwn (h + 3) (w8.setCell ⟨b, i, none⟩ (.int .i64 (max v ds))) (seeC d ((i : Int), ds)) x) := HS
      have HA : Hid (seeC d ((i : Int), ds) = A) := hA1
      clear HS hv hA1 HE hx
      go_upto_region 9 with fail
      go_cut [] from 46 to 58 (fun wx => Hid (Below h w wx ∧ Has wx (h + 2) (ceL ce0 pl0) ∧ Has wx k8 (ceL (seeC d ((i : Int), ds)) x) ∧ COwn (h + 3) wx (seeC d ((i : Int), ds)) x))
      case first =>
        go_region
        all_goals
          (go_wp2
           go_meet
           case rel => first | exact HS2 | exact ⟨HS2.out.1.drew, HS2.out.2.1.later (Below.refl _ _).drew, HS2.out.2.2.1.later (Below.refl _ _).drew, HS2.out.2.2.2.later (Below.refl _ _).drew⟩)
      case rest =>
        obtain ⟨w9, rfl⟩ : ∃ z, z = wc := ⟨_, rfl⟩
        have H9 := hcut
        clear HS2 c0 f0 c9 y0 y1 hi2 hcut
        have hA := HA.out
        clear HA
        obtain ⟨D, hD⟩ : ∃ D, seeC d ((i : Int), ds) = D := ⟨_, rfl⟩
        rw [hD] at H9 hA
        subst hA
        have lc := ld_ce H9.out.2.2.1
        obtain ⟨s0, s1, s2, s3, s4, s5, s6, s7, s8, s9⟩ := H9.out.2.1.ten
        obtain ⟨z0, z1, z2, z3, z4, z5, z6, z7, z8, z9⟩ := H9.out.2.1.tenf
        go_wp2_with (refine wpList_ldt lc rfl rfl rfl ?_)
        exact rend (d := D) (q := x) (a := h + 2) (B := h + 3) (r := 6) H9.out.1 H9.out.2.1 H9.out.2.2.2 (by omega) (by omega) rfl rfl rfl rfl
    · have q0 : (er != 0) = true := by simpa using h0
      have hA := HA.out
      rw [if_neg h0] at hA
      have hA1 : ce0 = A := congrArg Prod.fst hA
      have hA2 : er = ea := congrArg Prod.snd hA
      clear hA HA h0 HP HD HK hz
      subst hA2
      subst hA1
      have HR : Hid (Below h w w8 ∧ Has w8 (h + 2) (ceL ce0 pl0)) := ⟨HE.out.base, HE.out.res⟩
      clear HE
      obtain ⟨s0, s1, s2, s3, s4, s5, s6, s7, s8, s9⟩ := HR.out.2.ten
      obtain ⟨z0, z1, z2, z3, z4, z5, z6, z7, z8, z9⟩ := HR.out.2.tenf
      go_wp2_with fail
      exact bodyPost_ret (ret_cell2 rfl rfl rfl (HR.out.2.put10 _ _ _ _ _ _ _ _ _ _)) rfl ⟨pl0, rfl, own_none0 _ _, below_put10 HR.out.1 (by omega) _ _ _ _ _ _ _ _ _ _⟩


end Go.Proofs.YtgkddimijmnpcaaGreatDoor

