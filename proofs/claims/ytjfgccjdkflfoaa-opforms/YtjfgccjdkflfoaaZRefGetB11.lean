/-
  The document's GetOp, by contract.
-/
import Derived.Test.YtjfgccjdkflfoaaZPack4
import Derived.Test.YtjfgccjdkflfoaaZRefOpMay11
namespace Go.Proofs.Ytjfgccjdkflfoaa
open Go.RowKit
set_option linter.unusedVariables false
set_option linter.unusedSimpArgs false

set_option maxHeartbeats 8000000 in
set_option maxRecDepth 100000 in
theorem rgetop_k2 (s : ByteArray) (n : Nat) (w : World) (hs : s.size ≤ maxLen) (hm : 1 ≤ n ∧ n ≤ 16) (hK : (rdHead s.data.toList n).1.kind = 2) :
    Calls Try.prog 12 #[.string s, .int .i64 (n : Nat)] w fun e w' => ∃ q, e = .returned (.tuple #[oV (getO s.data.toList n) q, .int .i64 (getE s.data.toList n)]) ∧ OOwn w.heap.size w' (getO s.data.toList n) q ∧ Below w.heap.size w w' := by
  obtain ⟨g4, hg4⟩ : ∃ g, w.heap.size = g := ⟨_, rfl⟩
  obtain ⟨k, hk⟩ : ∃ k, g4 + 1 = k := ⟨_, rfl⟩
  have HW4 : Hid (w.heap.size = g4) := hg4
  have HK4 : Hid (g4 ≤ k) := by show g4 ≤ k; omega
  obtain ⟨hn1, hn2⟩ := hm
  have HK : Hid ((rdHead s.data.toList n).1.kind = 2) := hK
  clear hK
  obtain ⟨⟨d1, d2⟩, z1, e1⟩ : ∃ d z, rdD s.data.toList (some 0) = (d, z) := ⟨_, _, rfl⟩
  obtain ⟨tm, z2, e2⟩ : ∃ d z, rdN s.data.toList z1 = (d, z) := ⟨_, _, rfl⟩
  obtain ⟨dl, z3, e3⟩ : ∃ d z, rdL s.data.toList n z2 = (d, z) := ⟨_, _, rfl⟩
  obtain ⟨kd, z4, e4⟩ : ∃ d z, rdN s.data.toList z3 = (d, z) := ⟨_, _, rfl⟩
  obtain ⟨ty, z5, e5⟩ : ∃ d z, rdT s.data.toList z4 = (d, z) := ⟨_, _, rfl⟩
  obtain ⟨idd, z6, e6⟩ : ∃ d z, rdT s.data.toList z5 = (d, z) := ⟨_, _, rfl⟩
  obtain ⟨fd, z7, e7⟩ : ∃ d z, rdT s.data.toList z6 = (d, z) := ⟨_, _, rfl⟩
  have HE : Hid (rdHead s.data.toList n = (⟨d1, d2, tm, dl, kd, ty, idd, fd, noS, 0, 0, 0, 0, []⟩, z7)) := by
    show rdHead s.data.toList n = _
    simp only [rdHead, e1, e2, e3, e4, e5, e6, e7]
  have CN : ∀ z W, Rdr k s z W → Calls Try.prog 28 #[.pointer (some ⟨k, 0, none⟩)] W fun e w' => e = .returned (.int .i64 (rdN s.data.toList z).1) ∧ Rdr k s (rdN s.data.toList z).2 w' ∧ KO k W w' := fun z W H => dnum_any k s z W hs H
  have CT : ∀ z W, Rdr k s z W → Calls Try.prog 29 #[.pointer (some ⟨k, 0, none⟩)] W fun e w' => e = .returned (.string (rdT s.data.toList z).1) ∧ Rdr k s (rdT s.data.toList z).2 w' ∧ KO k W w' := fun z W H => dtext_any k s z W hs H
  have CD : ∀ z W, Rdr k s z W → Calls Try.prog 27 #[.pointer (some ⟨k, 0, none⟩)] W fun e w' => e = .returned (.agg #[.int .i64 (rdD s.data.toList z).1.1, .int .i64 (rdD s.data.toList z).1.2]) ∧ Rdr k s (rdD s.data.toList z).2 w' ∧ KO k W w' := fun z W H => ddot_any k s z W hs H
  have CP : ∀ z W, Rdr k s z W → Calls Try.prog 30 #[.pointer (some ⟨k, 0, none⟩)] W fun e w' => e = .returned (.int .i64 (unfI (rdN s.data.toList z).1)) ∧ Rdr k s (rdN s.data.toList z).2 w' ∧ KO k W w' := fun z W H => dpart_any k s z W hs H
  have C1 := CD (some 0)
  rw [e1] at C1
  have C2 := CN z1
  rw [e2] at C2
  have C4 := CN z3
  rw [e4] at C4
  have C5 := CT z4
  rw [e5] at C5
  have C6 := CT z5
  rw [e6] at C6
  have C7 := CT z6
  rw [e7] at C7
  simp only at C1 C2 C4 C5 C6 C7
  have HL : Hid (rdL s.data.toList n z2 = (dl, z3)) := e3
  have HLN : Hid (dl.length = n) := by
    have := rdL_len s.data.toList n z2
    rw [e3] at this
    exact this
  clear e1 e2 e3 e4 e5 e6 e7
  have H0 : Hid (Has ((w.alloc (.cells zL.toArray 29)).alloc (.cells #[.string s, .int .i64 0, .bool false] 64)) g4 zL ∧ Rdr k s (some 0) ((w.alloc (.cells zL.toArray 29)).alloc (.cells #[.string s, .int .i64 0, .bool false] 64)) ∧ Below g4 w ((w.alloc (.cells zL.toArray 29)).alloc (.cells #[.string s, .int .i64 0, .bool false] 64)) ∧ k = g4 + 1) := by
    subst hk hg4
    have a1 : Below w.heap.size w (w.alloc (.cells zL.toArray 29)) := (Below.refl _ _).alloc (Nat.le_refl _) _
    have a2 : Below (w.alloc (.cells zL.toArray 29)).heap.size (w.alloc (.cells zL.toArray 29)) ((w.alloc (.cells zL.toArray 29)).alloc (.cells #[.string s, .int .i64 0, .bool false] 64)) := (Below.refl _ _).alloc (Nat.le_refl _) _
    have n2 := has_new (w.alloc (.cells zL.toArray 29)) [.string s, .int .i64 0, .bool false] 64
    rw [World.size_alloc] at n2
    exact ⟨(has_new w zL _).later a2, ⟨n2, Nat.zero_le _⟩, thenB a1 a2, rfl⟩
  rw [hg4]
  have q1 : ¬ ((n : Int) < 1) := by omega
  have q2 : ¬ (16 < (n : Int)) := by omega
  go_enter Try.func12, Try.ntmps12
  go_upto_region 4 with fail
  generalize hW : (w.alloc (.cells zL.toArray 29)).alloc (.cells #[.string s, .int .i64 0, .bool false] 64) = w1 at H0 ⊢
  clear hW
  try simp only [hg4, hk, World.size_alloc]
  clear hg4 hk q1 q2
  go_wp2_with fail
  refine (C1 _ H0.out.2.1).mono ?_
  rintro e v0 ⟨rfl, r, kk⟩
  obtain ⟨g5, hg5⟩ : ∃ g, v0.heap.size = g := ⟨_, rfl⟩
  have J0 : Hid (RS w k g4 g5 s z1 ⟨d1, d2, 0, [], 0, noS, noS, noS, noS, 0, 0, 0, 0, []⟩ pq0 (v0.alloc (.cells (oL ⟨d1, d2, 0, [], 0, noS, noS, noS, noS, 0, 0, 0, 0, []⟩ pq0).toArray 29))) := rs_start ⟨d1, d2, 0, [], 0, noS, noS, noS, noS, 0, 0, 0, 0, []⟩ HW4.out H0.out.1 H0.out.2.2.1 H0.out.2.2.2 r kk hg5 rfl rfl
  clear r kk H0
  go_upto_region 5 with fail
  generalize hW : v0.alloc (.cells (oL ⟨d1, d2, 0, [], 0, noS, noS, noS, noS, 0, 0, 0, 0, []⟩ pq0).toArray 29) = x0 at J0 ⊢
  clear hW
  try simp only [hg5]
  clear hg5
  go_wp2_with fail
  refine (C2 _ J0.out.rd).mono ?_
  rintro e v1 ⟨rfl, r, kk⟩
  have HC := (J0.out.call r kk).cur
  have cc2 := HC.at 2 rfl
  have ff2 := HC.free 2 rfl
  have J1 : Hid (RS w k g4 g5 s z2 ⟨d1, d2, tm, [], 0, noS, noS, noS, noS, 0, 0, 0, 0, []⟩ pq0 (World.setCell v1 (⟨g5, 2, none⟩ : Addr) (.int .i64 tm))) := (RS.set (J0.out.call r kk) 2 (.int .i64 tm) ⟨d1, d2, tm, [], 0, noS, noS, noS, noS, 0, 0, 0, 0, []⟩ rfl rfl rfl)
  clear r kk HC
  go_upto_region 6 with fail
  generalize hW : (World.setCell v1 (⟨g5, 2, none⟩ : Addr) (.int .i64 tm)) = x1 at J1 ⊢
  clear hW cc2 ff2 J0
  go_wp2
  go_loopg [8] n (fun m iv wr => ∃ (i : Nat) (po : Option Addr) (pc : Nat) (l : List Int) (z : Option Nat), i + m = n ∧ iv = .int .i64 (i : Nat) ∧ Hid (rdL s.data.toList i z2 = (l, z) ∧ RS w k g4 g5 s z ⟨d1, d2, tm, l, 0, noS, noS, noS, noS, 0, 0, 0, 0, []⟩ ⟨po, pc, none, 0⟩ wr))
  case atStart => exact ⟨0, none, 0, [], z2, by omega, rfl, rfl, J1.out⟩
  case round =>
    clear J1
    obtain ⟨i, po, pc, l, z, him, rfl, HR⟩ := hrel
    have HLi : Hid (l.length = i) := by
      have := rdL_len s.data.toList i z2
      rw [HR.out.1] at this
      exact this
    by_cases hi : i < n
    · have cc3 := HR.out.2.cur.at 3 rfl
      simp only [HLi.out] at cc3
      have hi16 : i < 16 := by omega
      have hd : decide ((i : Int) < (n : Int)) = true := by simp; omega
      go_wp2
      refine wp_region_till (fun W => W.cell? ⟨g5, 3, none⟩ = some (.slice po i pc)) 7 (by kernel_rfl) (fun hcl => ?_)
      have hHeld : wr.drew.cell? ⟨g5, 3, none⟩ = some (.slice po i pc) := cc3
      refine takeT 0 32 (v := .pointer (some ⟨g5, 3, none⟩)) rfl (by kernel_rfl) (by kernel_rfl) (by kernel_rfl) (fun _ _ _ h => h) (Waits.trans (Waits.trans (waits_one (e := 7) (i := 5) (by kernel_rfl)) (waits_one (e := 5) (i := 1) (by kernel_rfl))) (waits_one (e := 1) (i := 0) (by kernel_rfl))) (by decide) hcl rfl (by rfl) (fun w hSw => ?hy) hHeld (fun hcl => ?_)
      case hy =>
        try dsimp only at hSw
        go_simp
      simp only [List.set_cons_zero, List.set_cons_succ]
      refine takeT 1 33 (v := .slice po i pc) rfl (by kernel_rfl) (by kernel_rfl) (by kernel_rfl) (fun _ _ _ h => h) (Waits.trans (waits_one (e := 7) (i := 5) (by kernel_rfl)) (waits_one (e := 5) (i := 1) (by kernel_rfl))) (by decide) hcl rfl (by rfl) (fun w hSw => ?hy) hHeld (fun hcl => ?_)
      case hy =>
        try dsimp only at hSw
        go_simp
      simp only [List.set_cons_zero, List.set_cons_succ]
      refine takeT 2 34 (v := .pointer (some ⟨k, 0, none⟩)) rfl (by kernel_rfl) (by kernel_rfl) (by kernel_rfl) (fun _ _ _ h => h) (Waits.trans (Waits.trans (Waits.trans (waits_one (e := 7) (i := 5) (by kernel_rfl)) (waits_one (e := 5) (i := 4) (by kernel_rfl))) (waits_one (e := 4) (i := 3) (by kernel_rfl))) (waits_one (e := 3) (i := 2) (by kernel_rfl))) (by decide) hcl rfl (by rfl) (fun w hSw => ?hy) hHeld (fun hcl => ?_)
      case hy =>
        try dsimp only at hSw
        go_simp
      simp only [List.set_cons_zero, List.set_cons_succ]
      refine readyT (rs := [3]) (by kernel_rfl) (by simp) ?_
      refine AllT.cons rfl (fun K hK => ?_) AllT.nil
      go_simp
      refine (CN z wr.drew (HR.out.2.rd.later (Below.refl _ _).drew)).mono ?_
      rintro e w2 ⟨rfl, r2, k2⟩
      have H2 : Hid (RS w k g4 g5 s (rdN s.data.toList z).2 ⟨d1, d2, tm, l, 0, noS, noS, noS, noS, 0, 0, 0, 0, []⟩ ⟨po, pc, none, 0⟩ w2) := (HR.out.2.later (Below.refl _ _).drew).call r2 k2
      have cc4 := H2.out.cur.at 3 rfl
      simp only [HLi.out] at cc4
      clear r2 k2
      first | go_simp | skip
      refine hK.out _ _ cc4 ?_
      clear hK K
      try simp only [Act.put, List.setIfInBounds_toArray, List.set_cons_zero, List.set_cons_succ]
      refine readyT (rs := [4]) (by kernel_rfl) (by simp) ?_
      refine AllT.cons rfl (fun K hK => ?_) AllT.nil
      go_simp
      obtain ⟨y, hy⟩ : ∃ y, (rdN s.data.toList z).1 = y := ⟨_, rfl⟩
      rw [hy]
      have HYY : Hid ((rdN s.data.toList z).1 = y) := hy
      clear hy
      have hal : Below w2.heap.size w2 (w2.alloc (.cells #[.int .i64 y] 3)) := (Below.refl _ _).alloc (Nat.le_refl _) _
      have H3 : Hid (RS w k g4 g5 s (rdN s.data.toList z).2 ⟨d1, d2, tm, l, 0, noS, noS, noS, noS, 0, 0, 0, 0, []⟩ ⟨po, pc, none, 0⟩ (w2.alloc (.cells #[.int .i64 y] 3)) ∧ Has (w2.alloc (.cells #[.int .i64 y] 3)) w2.heap.size [.int .i64 y]) := ⟨H2.out.later hal, has_new w2 [.int .i64 y] _⟩
      clear hal
      have cc5 := H3.out.1.cur.at 3 rfl
      simp only [HLi.out] at cc5
      refine hK.out _ _ cc5 ?_
      clear hK K
      try simp only [Act.put, List.setIfInBounds_toArray, List.set_cons_zero, List.set_cons_succ]
      refine readyT (rs := [5]) (by kernel_rfl) (by simp) ?_
      refine AllT.cons rfl (fun K hK => ?_) AllT.nil
      have O3 := H3.out.1.deps
      simp only [HLi.out] at O3
      refine step_onto1 rfl (.tmp 33) (.tmp 36) 24 rfl Try.underlying24 Try.infoInt rfl (by decide) (by decide) (B := g5 + 1) (n := i) (bo := po) (cb := pc) rfl rfl O3 H3.out.2 rfl (fun u hu => by simp only [List.mem_singleton] at hu; subst hu; rfl) (by omega) (by have := H3.out.1.cur.1; omega) ?_
      intro bo cb w4 o4 b4
      have HB4 : Hid (w4.ownsRow (g5 + 1) 3 1 (.slice bo (l ++ [y]).length cb) (l ++ [y]).length (flatI (l ++ [y])) ∧ Below (g5 + 1) (w2.alloc (.cells #[.int .i64 y] 3)) w4) := by
        refine ⟨?_, b4⟩
        rw [List.length_append, HLi.out]
        have e : flatI (l ++ [y]) = flatI l ++ [.int .i64 y] := by simp [flatI]
        rw [e]
        exact o4
      have HM4 : Hid (Has w4 g5 (oL ⟨d1, d2, tm, l, 0, noS, noS, noS, noS, 0, 0, 0, 0, []⟩ ⟨po, pc, none, 0⟩)) := H3.out.1.cur.under (Nat.lt_succ_self _) b4
      have cc6 := HM4.out.at 3 rfl
      simp only [HLi.out] at cc6
      have ff6 := HM4.out.free 3 rfl
      have HF5 : Hid (RS w k g4 g5 s (rdN s.data.toList z).2 ⟨d1, d2, tm, (l ++ [y]), 0, noS, noS, noS, noS, 0, 0, 0, 0, []⟩ ⟨bo, cb, none, 0⟩ (w4.setCell ⟨g5, 3, none⟩ (.slice bo (i + 1) cb))) := by
        have := H3.out.1.depsB HB4.out.2 HB4.out.1 rfl ⟨rfl, rfl⟩
        rw [show (l ++ [y]).length = i + 1 by rw [List.length_append, HLi.out]; rfl] at this
        exact this
      clear o4 b4 O3 cc5 cc4
      refine hK.out _ _ cc6 ?_
      clear hK K
      try simp only [Act.put, List.setIfInBounds_toArray, List.set_cons_zero, List.set_cons_succ]
      refine readyT (rs := [6]) (by kernel_rfl) (by simp) ?_
      refine AllT.cons rfl (fun K hK => ?_) AllT.nil
      go_simp
      refine hK.out _ _ cc6 ?_
      clear hK K
      try simp only [Act.put, List.setIfInBounds_toArray, List.set_cons_zero, List.set_cons_succ]
      refine readyT (rs := [7]) (by kernel_rfl) (by simp) ?_
      refine AllT.late rfl (by kernel_rfl) (fun K hK => ?_) AllT.nil
      go_simp
      refine hK.out _ _ ?_
      clear hK K
      try simp only [Act.put, List.setIfInBounds_toArray, List.set_cons_zero, List.set_cons_succ]
      refine doneT (by kernel_rfl) ?_ _

      generalize hW : w4.setCell ⟨g5, 3, none⟩ (.slice bo (i + 1) cb) = w5 at HF5 ⊢
      clear hW cc6 ff6 cc3 H2 H3 HB4 HM4 hHeld hcl
      go_wp2
      go_roundg (gk - 1)
      case measure => omega
      case rel =>
        refine ⟨i + 1, bo, cb, l ++ [y], (rdN s.data.toList z).2, by omega, by go_num, ?_⟩
        show _ ∧ _
        refine ⟨?_, HF5.out⟩
        have h1 := HR.out.1
        show rdL s.data.toList (i + 1) z2 = _
        simp only [rdL, h1]
        rw [HYY.out]
    · have hd : decide ((i : Int) < (n : Int)) = false := by simp; omega
      have hin : i = n := by omega
      subst hin
      obtain ⟨rfl, rfl⟩ : l = dl ∧ z = z3 := by
        have := HR.out.1
        rw [HL.out] at this
        simp only [Prod.mk.injEq] at this
        exact ⟨this.1.symm, this.2.symm⟩
      have JL : Hid (RS w k g4 g5 s z ⟨d1, d2, tm, l, 0, noS, noS, noS, noS, 0, 0, 0, 0, []⟩ ⟨po, pc, none, 0⟩ wr) := HR.out.2
      clear HR
      obtain ⟨y0, rfl⟩ : ∃ z, z = wr := ⟨_, rfl⟩
      go_upto_region 10 with fail
      go_wp2_with fail
      refine (C4 _ JL.out.rd).mono ?_
      rintro e v10 ⟨rfl, r, kk⟩
      have HC := (JL.out.call r kk).cur
      have cc4 := HC.at 4 rfl
      have ff4 := HC.free 4 rfl
      have J10 : Hid (RS w k g4 g5 s z4 ⟨d1, d2, tm, l, kd, noS, noS, noS, noS, 0, 0, 0, 0, []⟩ ⟨po, pc, none, 0⟩ (World.setCell v10 (⟨g5, 4, none⟩ : Addr) (.int .i64 kd))) := (RS.set (JL.out.call r kk) 4 (.int .i64 kd) ⟨d1, d2, tm, l, kd, noS, noS, noS, noS, 0, 0, 0, 0, []⟩ rfl rfl rfl)
      clear r kk HC
      go_upto_region 11 with fail
      generalize hW : (World.setCell v10 (⟨g5, 4, none⟩ : Addr) (.int .i64 kd)) = x10 at J10 ⊢
      clear hW cc4 ff4 JL
      go_wp2_with fail
      refine (C5 _ J10.out.rd).mono ?_
      rintro e v11 ⟨rfl, r, kk⟩
      have HC := (J10.out.call r kk).cur
      have cc5 := HC.at 5 rfl
      have ff5 := HC.free 5 rfl
      have J11 : Hid (RS w k g4 g5 s z5 ⟨d1, d2, tm, l, kd, ty, noS, noS, noS, 0, 0, 0, 0, []⟩ ⟨po, pc, none, 0⟩ (World.setCell v11 (⟨g5, 5, none⟩ : Addr) (.string ty))) := (RS.set (J10.out.call r kk) 5 (.string ty) ⟨d1, d2, tm, l, kd, ty, noS, noS, noS, 0, 0, 0, 0, []⟩ rfl rfl rfl)
      clear r kk HC
      go_upto_region 12 with fail
      generalize hW : (World.setCell v11 (⟨g5, 5, none⟩ : Addr) (.string ty)) = x11 at J11 ⊢
      clear hW cc5 ff5 J10
      go_wp2_with fail
      refine (C6 _ J11.out.rd).mono ?_
      rintro e v12 ⟨rfl, r, kk⟩
      have HC := (J11.out.call r kk).cur
      have cc6 := HC.at 6 rfl
      have ff6 := HC.free 6 rfl
      have J12 : Hid (RS w k g4 g5 s z6 ⟨d1, d2, tm, l, kd, ty, idd, noS, noS, 0, 0, 0, 0, []⟩ ⟨po, pc, none, 0⟩ (World.setCell v12 (⟨g5, 6, none⟩ : Addr) (.string idd))) := (RS.set (J11.out.call r kk) 6 (.string idd) ⟨d1, d2, tm, l, kd, ty, idd, noS, noS, 0, 0, 0, 0, []⟩ rfl rfl rfl)
      clear r kk HC
      go_upto_region 13 with fail
      generalize hW : (World.setCell v12 (⟨g5, 6, none⟩ : Addr) (.string idd)) = x12 at J12 ⊢
      clear hW cc6 ff6 J11
      go_wp2_with fail
      refine (C7 _ J12.out.rd).mono ?_
      rintro e v13 ⟨rfl, r, kk⟩
      have HC := (J12.out.call r kk).cur
      have cc7 := HC.at 7 rfl
      have ff7 := HC.free 7 rfl
      have J13 : Hid (RS w k g4 g5 s z7 ⟨d1, d2, tm, l, kd, ty, idd, fd, noS, 0, 0, 0, 0, []⟩ ⟨po, pc, none, 0⟩ (World.setCell v13 (⟨g5, 7, none⟩ : Addr) (.string fd))) := (RS.set (J12.out.call r kk) 7 (.string fd) ⟨d1, d2, tm, l, kd, ty, idd, fd, noS, 0, 0, 0, 0, []⟩ rfl rfl rfl)
      clear r kk HC
      go_upto_region 14 with fail
      generalize hW : (World.setCell v13 (⟨g5, 7, none⟩ : Addr) (.string fd)) = x13 at J13 ⊢
      clear hW cc7 ff7 J12
      have hk := HK.out
      rw [HE.out] at hk
      simp only at hk
      clear HK
      subst hk
      have JP : Hid (RS w k g4 g5 s z7 ⟨d1, d2, tm, l, 2, ty, idd, fd, noS, 0, 0, 0, 0, []⟩ ⟨po, pc, none, 0⟩ x13) := J13.out
      clear J13
      have cc4 := JP.out.cur.at 4 rfl
      obtain ⟨r8, z8, h8⟩ : ∃ d z, rdT s.data.toList z7 = (d, z) := ⟨_, _, rfl⟩
      have E8 : Hid (rdT s.data.toList z7 = (r8, z8)) := h8
      have C8 := CT z7
      rw [h8] at C8
      simp only at C8
      clear h8
      go_upto_region 17 with fail
      clear cc4
      go_wp2_with fail
      refine (C8 _ JP.out.rd).mono ?_
      rintro e v30 ⟨rfl, r, kk⟩
      have HC := (JP.out.call r kk).cur
      have cc8 := HC.at 8 rfl
      have ff8 := HC.free 8 rfl
      have J30 : Hid (RS w k g4 g5 s z8 ⟨d1, d2, tm, l, 2, ty, idd, fd, r8, 0, 0, 0, 0, []⟩ ⟨po, pc, none, 0⟩ (World.setCell v30 (⟨g5, 8, none⟩ : Addr) (.string r8))) := (RS.set (JP.out.call r kk) 8 (.string r8) ⟨d1, d2, tm, l, 2, ty, idd, fd, r8, 0, 0, 0, 0, []⟩ rfl rfl rfl)
      clear r kk HC
      go_upto_region 32 with fail
      generalize hW : (World.setCell v30 (⟨g5, 8, none⟩ : Addr) (.string r8)) = x30 at J30 ⊢
      clear hW cc8 ff8 JP
      have HO : rdO s.data.toList i = (⟨d1, d2, tm, l, 2, ty, idd, fd, r8, 0, 0, 0, 0, []⟩, z8) := by
        show rdO s.data.toList i = _
        unfold rdO
        rw [HE.out]
        simp [rdTail, E8.out]
      have HQ : Hid (EndO s.data.toList i ⟨d1, d2, tm, l, 2, ty, idd, fd, r8, 0, 0, 0, 0, []⟩ z8) := endO_of HO ⟨hn1, hn2⟩
      have HS : Hid (Siz ⟨d1, d2, tm, l, 2, ty, idd, fd, r8, 0, 0, 0, 0, []⟩) := by
        have := siz_rd s.data.toList i hn2
        rw [HO] at this
        exact this
      clear HO
      cases hzz : z8 with
      | none =>
        rw [hzz] at J30 HQ
        obtain ⟨a, hR, ha⟩ : ∃ a : Nat, Has x30 k [.string s, .int .i64 (a : Nat), .bool true] ∧ a ≤ s.size := J30.out.rd
        obtain ⟨⟨c0, c1, c2⟩, _⟩ := hR.three
        clear hR hzz
        obtain ⟨b0, b1, b2, b3, b4, b5, b6, b7, b8, b9, b10, b11, b12, b13⟩ := (show Has _ g4 zL from J30.out.res).f14
        obtain ⟨f0, f1, f2, f3, f4, f5, f6, f7, f8, f9, f10, f11, f12, f13⟩ := (show Has _ g4 zL from J30.out.res).f14f
        have HEND : Hid (Has (putO14 x30 g4 o0 pq0) g4 zL ∧ OOwn g4 (putO14 x30 g4 o0 pq0) o0 pq0 ∧ Below g4 w (putO14 x30 g4 o0 pq0)) := zero_put J30.out.res (Kept.below J30.out.ko (Nat.le_of_eq HW4.out.symm) (fun j hj => by subst hj; exact HK4.out)) (Nat.le_refl _)
        have HG : Hid (getO s.data.toList (i : Nat) = o0 ∧ getE s.data.toList (i : Nat) = 1100) := HQ.out.no (Or.inl (by simp))
        go_wp2
        rw [HG.out.1, HG.out.2]
        dsimp only [putO14, put14, List.length_nil, o0, pq0] at HEND
        generalize hW : World.setCell _ (⟨g4, 13, none⟩ : Addr) _ = w9 at HEND ⊢
        exact bodyPost_ret (ret_op2 rfl rfl rfl HEND.out.1) rfl ⟨pq0, rfl, HEND.out.2⟩
      | some c =>
        rw [hzz] at J30 HQ
        obtain ⟨hR, hc⟩ : Has x30 k [.string s, .int .i64 (c : Nat), .bool false] ∧ c ≤ s.size := J30.out.rd
        obtain ⟨⟨c0, c1, c2⟩, _⟩ := hR.three
        clear hR hzz
        by_cases hcs : c = s.size
        · subst hcs
          have hn : ((s.size : Int) != (s.size : Int)) = false := by simp
          have hn2 : (s.size != s.size) = false := by simp
          obtain ⟨a0, a1, a2, a3, a4, a5, a6, a7, a8, a9, a10, a11, a12, a13⟩ := (show Has _ g5 (oL ⟨d1, d2, tm, l, 2, ty, idd, fd, r8, 0, 0, 0, 0, []⟩ ⟨po, pc, none, 0⟩) from J30.out.cur).f14
          have C := ropmay_any ⟨d1, d2, tm, l, 2, ty, idd, fd, r8, 0, 0, 0, 0, []⟩ ⟨po, pc, none, 0⟩ (i : Nat) x30 (OOwn.row (B := g5 + 1) ⟨J30.out.deps, J30.out.dots⟩) HS.out
          cases hmay : mayO ⟨d1, d2, tm, l, 2, ty, idd, fd, r8, 0, 0, 0, 0, []⟩ (i : Nat) with
          | false =>
            have HMY : Hid (mayO ⟨d1, d2, tm, l, 2, ty, idd, fd, r8, 0, 0, 0, 0, []⟩ (i : Nat) = false) := hmay
            rw [hmay] at C
            clear hmay
            go_wp2_with fail
            refine C.mono ?_
            rintro e y5 ⟨rfl, b5⟩
            have HY : Hid (RS w k g4 g5 s (some s.size) ⟨d1, d2, tm, l, 2, ty, idd, fd, r8, 0, 0, 0, 0, []⟩ ⟨po, pc, none, 0⟩ y5) := J30.out.later b5
            clear b5 J30 C a0 a1 a2 a3 a4 a5 a6 a7 a8 a9 a10 a11 a12 a13 c0 c1 c2
            obtain ⟨b0, b1, b2, b3, b4, b5, b6, b7, b8, b9, b10, b11, b12, b13⟩ := (show Has _ g4 zL from HY.out.res).f14
            obtain ⟨f0, f1, f2, f3, f4, f5, f6, f7, f8, f9, f10, f11, f12, f13⟩ := (show Has _ g4 zL from HY.out.res).f14f
            have HEND : Hid (Has (putO14 y5 g4 o0 pq0) g4 zL ∧ OOwn g4 (putO14 y5 g4 o0 pq0) o0 pq0 ∧ Below g4 w (putO14 y5 g4 o0 pq0)) := zero_put HY.out.res (Kept.below HY.out.ko (Nat.le_of_eq HW4.out.symm) (fun j hj => by subst hj; exact HK4.out)) (Nat.le_refl _)
            have HG : Hid (getO s.data.toList (i : Nat) = o0 ∧ getE s.data.toList (i : Nat) = 1100) := HQ.out.no (Or.inr HMY.out)
            go_wp2
            rw [HG.out.1, HG.out.2]
            dsimp only [putO14, put14, List.length_nil, o0, pq0] at HEND
            generalize hW : World.setCell _ (⟨g4, 13, none⟩ : Addr) _ = w9 at HEND ⊢
            exact bodyPost_ret (ret_op2 rfl rfl rfl HEND.out.1) rfl ⟨pq0, rfl, HEND.out.2⟩
          | true =>
            have HMY : Hid (mayO ⟨d1, d2, tm, l, 2, ty, idd, fd, r8, 0, 0, 0, 0, []⟩ (i : Nat) = true) := hmay
            rw [hmay] at C
            clear hmay
            go_wp2_with fail
            refine C.mono ?_
            rintro e y5 ⟨rfl, b5⟩
            have HY : Hid (RS w k g4 g5 s (some s.size) ⟨d1, d2, tm, l, 2, ty, idd, fd, r8, 0, 0, 0, 0, []⟩ ⟨po, pc, none, 0⟩ y5) := J30.out.later b5
            clear b5 J30 C a0 a1 a2 a3 a4 a5 a6 a7 a8 a9 a10 a11 a12 a13 c0 c1 c2
            obtain ⟨a0, a1, a2, a3, a4, a5, a6, a7, a8, a9, a10, a11, a12, a13⟩ := (show Has _ g5 (oL ⟨d1, d2, tm, l, 2, ty, idd, fd, r8, 0, 0, 0, 0, []⟩ ⟨po, pc, none, 0⟩) from HY.out.cur).f14
            obtain ⟨b0, b1, b2, b3, b4, b5, b6, b7, b8, b9, b10, b11, b12, b13⟩ := (show Has _ g4 zL from HY.out.res).f14
            obtain ⟨f0, f1, f2, f3, f4, f5, f6, f7, f8, f9, f10, f11, f12, f13⟩ := (show Has _ g4 zL from HY.out.res).f14f
            have HEND : Hid (Has (putO14 y5 g4 ⟨d1, d2, tm, l, 2, ty, idd, fd, r8, 0, 0, 0, 0, []⟩ ⟨po, pc, none, 0⟩) g4 (oL ⟨d1, d2, tm, l, 2, ty, idd, fd, r8, 0, 0, 0, 0, []⟩ ⟨po, pc, none, 0⟩) ∧ OOwn g4 (putO14 y5 g4 ⟨d1, d2, tm, l, 2, ty, idd, fd, r8, 0, 0, 0, 0, []⟩ ⟨po, pc, none, 0⟩) ⟨d1, d2, tm, l, 2, ty, idd, fd, r8, 0, 0, 0, 0, []⟩ ⟨po, pc, none, 0⟩ ∧ Below g4 w (putO14 y5 g4 ⟨d1, d2, tm, l, 2, ty, idd, fd, r8, 0, 0, 0, 0, []⟩ ⟨po, pc, none, 0⟩)) := ⟨has_putO ⟨d1, d2, tm, l, 2, ty, idd, fd, r8, 0, 0, 0, 0, []⟩ ⟨po, pc, none, 0⟩ HY.out.res rfl, (OOwn.put (⟨HY.out.deps, HY.out.dots⟩ : OOwn (g5 + 1) _ ⟨d1, d2, tm, l, 2, ty, idd, fd, r8, 0, 0, 0, 0, []⟩ ⟨po, pc, none, 0⟩) (by have := HY.out.h45; omega)).mono (by have := HY.out.h45; omega), below_put14 (Kept.below HY.out.ko (Nat.le_of_eq HW4.out.symm) (fun j hj => by subst hj; exact HK4.out)) (Nat.le_refl _) _ _⟩
            have HG : Hid (getO s.data.toList (i : Nat) = ⟨d1, d2, tm, l, 2, ty, idd, fd, r8, 0, 0, 0, 0, []⟩ ∧ getE s.data.toList (i : Nat) = 0) := HQ.out.yes (by simp) HMY.out
            clear HY
            go_wp2
            rw [HG.out.1, HG.out.2]
            dsimp only [putO14, put14, List.length_nil] at HEND
            generalize hW : World.setCell _ (⟨g4, 13, none⟩ : Addr) _ = w9 at HEND ⊢
            exact bodyPost_ret (ret_op2 rfl rfl rfl HEND.out.1) rfl ⟨⟨po, pc, none, 0⟩, rfl, HEND.out.2⟩
        · have hn : ((c : Int) != (s.size : Int)) = true := by rw [bne_iff_ne]; omega
          have hn2 : (c != s.size) = true := by rw [bne_iff_ne]; exact hcs
          obtain ⟨b0, b1, b2, b3, b4, b5, b6, b7, b8, b9, b10, b11, b12, b13⟩ := (show Has _ g4 zL from J30.out.res).f14
          obtain ⟨f0, f1, f2, f3, f4, f5, f6, f7, f8, f9, f10, f11, f12, f13⟩ := (show Has _ g4 zL from J30.out.res).f14f
          have HEND : Hid (Has (putO14 x30 g4 o0 pq0) g4 zL ∧ OOwn g4 (putO14 x30 g4 o0 pq0) o0 pq0 ∧ Below g4 w (putO14 x30 g4 o0 pq0)) := zero_put J30.out.res (Kept.below J30.out.ko (Nat.le_of_eq HW4.out.symm) (fun j hj => by subst hj; exact HK4.out)) (Nat.le_refl _)
          have HG : Hid (getO s.data.toList (i : Nat) = o0 ∧ getE s.data.toList (i : Nat) = 1100) := HQ.out.no (Or.inl (by simp [hcs]))
          go_wp2
          rw [HG.out.1, HG.out.2]
          dsimp only [putO14, put14, List.length_nil, o0, pq0] at HEND
          generalize hW : World.setCell _ (⟨g4, 13, none⟩ : Addr) _ = w9 at HEND ⊢
          exact bodyPost_ret (ret_op2 rfl rfl rfl HEND.out.1) rfl ⟨pq0, rfl, HEND.out.2⟩

set_option maxHeartbeats 8000000 in
set_option maxRecDepth 100000 in
theorem rgetop_k4 (s : ByteArray) (n : Nat) (w : World) (hs : s.size ≤ maxLen) (hm : 1 ≤ n ∧ n ≤ 16) (hK : (rdHead s.data.toList n).1.kind = 4) :
    Calls Try.prog 12 #[.string s, .int .i64 (n : Nat)] w fun e w' => ∃ q, e = .returned (.tuple #[oV (getO s.data.toList n) q, .int .i64 (getE s.data.toList n)]) ∧ OOwn w.heap.size w' (getO s.data.toList n) q ∧ Below w.heap.size w w' := by
  obtain ⟨g4, hg4⟩ : ∃ g, w.heap.size = g := ⟨_, rfl⟩
  obtain ⟨k, hk⟩ : ∃ k, g4 + 1 = k := ⟨_, rfl⟩
  have HW4 : Hid (w.heap.size = g4) := hg4
  have HK4 : Hid (g4 ≤ k) := by show g4 ≤ k; omega
  obtain ⟨hn1, hn2⟩ := hm
  have HK : Hid ((rdHead s.data.toList n).1.kind = 4) := hK
  clear hK
  obtain ⟨⟨d1, d2⟩, z1, e1⟩ : ∃ d z, rdD s.data.toList (some 0) = (d, z) := ⟨_, _, rfl⟩
  obtain ⟨tm, z2, e2⟩ : ∃ d z, rdN s.data.toList z1 = (d, z) := ⟨_, _, rfl⟩
  obtain ⟨dl, z3, e3⟩ : ∃ d z, rdL s.data.toList n z2 = (d, z) := ⟨_, _, rfl⟩
  obtain ⟨kd, z4, e4⟩ : ∃ d z, rdN s.data.toList z3 = (d, z) := ⟨_, _, rfl⟩
  obtain ⟨ty, z5, e5⟩ : ∃ d z, rdT s.data.toList z4 = (d, z) := ⟨_, _, rfl⟩
  obtain ⟨idd, z6, e6⟩ : ∃ d z, rdT s.data.toList z5 = (d, z) := ⟨_, _, rfl⟩
  obtain ⟨fd, z7, e7⟩ : ∃ d z, rdT s.data.toList z6 = (d, z) := ⟨_, _, rfl⟩
  have HE : Hid (rdHead s.data.toList n = (⟨d1, d2, tm, dl, kd, ty, idd, fd, noS, 0, 0, 0, 0, []⟩, z7)) := by
    show rdHead s.data.toList n = _
    simp only [rdHead, e1, e2, e3, e4, e5, e6, e7]
  have CN : ∀ z W, Rdr k s z W → Calls Try.prog 28 #[.pointer (some ⟨k, 0, none⟩)] W fun e w' => e = .returned (.int .i64 (rdN s.data.toList z).1) ∧ Rdr k s (rdN s.data.toList z).2 w' ∧ KO k W w' := fun z W H => dnum_any k s z W hs H
  have CT : ∀ z W, Rdr k s z W → Calls Try.prog 29 #[.pointer (some ⟨k, 0, none⟩)] W fun e w' => e = .returned (.string (rdT s.data.toList z).1) ∧ Rdr k s (rdT s.data.toList z).2 w' ∧ KO k W w' := fun z W H => dtext_any k s z W hs H
  have CD : ∀ z W, Rdr k s z W → Calls Try.prog 27 #[.pointer (some ⟨k, 0, none⟩)] W fun e w' => e = .returned (.agg #[.int .i64 (rdD s.data.toList z).1.1, .int .i64 (rdD s.data.toList z).1.2]) ∧ Rdr k s (rdD s.data.toList z).2 w' ∧ KO k W w' := fun z W H => ddot_any k s z W hs H
  have CP : ∀ z W, Rdr k s z W → Calls Try.prog 30 #[.pointer (some ⟨k, 0, none⟩)] W fun e w' => e = .returned (.int .i64 (unfI (rdN s.data.toList z).1)) ∧ Rdr k s (rdN s.data.toList z).2 w' ∧ KO k W w' := fun z W H => dpart_any k s z W hs H
  have C1 := CD (some 0)
  rw [e1] at C1
  have C2 := CN z1
  rw [e2] at C2
  have C4 := CN z3
  rw [e4] at C4
  have C5 := CT z4
  rw [e5] at C5
  have C6 := CT z5
  rw [e6] at C6
  have C7 := CT z6
  rw [e7] at C7
  simp only at C1 C2 C4 C5 C6 C7
  have HL : Hid (rdL s.data.toList n z2 = (dl, z3)) := e3
  have HLN : Hid (dl.length = n) := by
    have := rdL_len s.data.toList n z2
    rw [e3] at this
    exact this
  clear e1 e2 e3 e4 e5 e6 e7
  have H0 : Hid (Has ((w.alloc (.cells zL.toArray 29)).alloc (.cells #[.string s, .int .i64 0, .bool false] 64)) g4 zL ∧ Rdr k s (some 0) ((w.alloc (.cells zL.toArray 29)).alloc (.cells #[.string s, .int .i64 0, .bool false] 64)) ∧ Below g4 w ((w.alloc (.cells zL.toArray 29)).alloc (.cells #[.string s, .int .i64 0, .bool false] 64)) ∧ k = g4 + 1) := by
    subst hk hg4
    have a1 : Below w.heap.size w (w.alloc (.cells zL.toArray 29)) := (Below.refl _ _).alloc (Nat.le_refl _) _
    have a2 : Below (w.alloc (.cells zL.toArray 29)).heap.size (w.alloc (.cells zL.toArray 29)) ((w.alloc (.cells zL.toArray 29)).alloc (.cells #[.string s, .int .i64 0, .bool false] 64)) := (Below.refl _ _).alloc (Nat.le_refl _) _
    have n2 := has_new (w.alloc (.cells zL.toArray 29)) [.string s, .int .i64 0, .bool false] 64
    rw [World.size_alloc] at n2
    exact ⟨(has_new w zL _).later a2, ⟨n2, Nat.zero_le _⟩, thenB a1 a2, rfl⟩
  rw [hg4]
  have q1 : ¬ ((n : Int) < 1) := by omega
  have q2 : ¬ (16 < (n : Int)) := by omega
  go_enter Try.func12, Try.ntmps12
  go_upto_region 4 with fail
  generalize hW : (w.alloc (.cells zL.toArray 29)).alloc (.cells #[.string s, .int .i64 0, .bool false] 64) = w1 at H0 ⊢
  clear hW
  try simp only [hg4, hk, World.size_alloc]
  clear hg4 hk q1 q2
  go_wp2_with fail
  refine (C1 _ H0.out.2.1).mono ?_
  rintro e v0 ⟨rfl, r, kk⟩
  obtain ⟨g5, hg5⟩ : ∃ g, v0.heap.size = g := ⟨_, rfl⟩
  have J0 : Hid (RS w k g4 g5 s z1 ⟨d1, d2, 0, [], 0, noS, noS, noS, noS, 0, 0, 0, 0, []⟩ pq0 (v0.alloc (.cells (oL ⟨d1, d2, 0, [], 0, noS, noS, noS, noS, 0, 0, 0, 0, []⟩ pq0).toArray 29))) := rs_start ⟨d1, d2, 0, [], 0, noS, noS, noS, noS, 0, 0, 0, 0, []⟩ HW4.out H0.out.1 H0.out.2.2.1 H0.out.2.2.2 r kk hg5 rfl rfl
  clear r kk H0
  go_upto_region 5 with fail
  generalize hW : v0.alloc (.cells (oL ⟨d1, d2, 0, [], 0, noS, noS, noS, noS, 0, 0, 0, 0, []⟩ pq0).toArray 29) = x0 at J0 ⊢
  clear hW
  try simp only [hg5]
  clear hg5
  go_wp2_with fail
  refine (C2 _ J0.out.rd).mono ?_
  rintro e v1 ⟨rfl, r, kk⟩
  have HC := (J0.out.call r kk).cur
  have cc2 := HC.at 2 rfl
  have ff2 := HC.free 2 rfl
  have J1 : Hid (RS w k g4 g5 s z2 ⟨d1, d2, tm, [], 0, noS, noS, noS, noS, 0, 0, 0, 0, []⟩ pq0 (World.setCell v1 (⟨g5, 2, none⟩ : Addr) (.int .i64 tm))) := (RS.set (J0.out.call r kk) 2 (.int .i64 tm) ⟨d1, d2, tm, [], 0, noS, noS, noS, noS, 0, 0, 0, 0, []⟩ rfl rfl rfl)
  clear r kk HC
  go_upto_region 6 with fail
  generalize hW : (World.setCell v1 (⟨g5, 2, none⟩ : Addr) (.int .i64 tm)) = x1 at J1 ⊢
  clear hW cc2 ff2 J0
  go_wp2
  go_loopg [8] n (fun m iv wr => ∃ (i : Nat) (po : Option Addr) (pc : Nat) (l : List Int) (z : Option Nat), i + m = n ∧ iv = .int .i64 (i : Nat) ∧ Hid (rdL s.data.toList i z2 = (l, z) ∧ RS w k g4 g5 s z ⟨d1, d2, tm, l, 0, noS, noS, noS, noS, 0, 0, 0, 0, []⟩ ⟨po, pc, none, 0⟩ wr))
  case atStart => exact ⟨0, none, 0, [], z2, by omega, rfl, rfl, J1.out⟩
  case round =>
    clear J1
    obtain ⟨i, po, pc, l, z, him, rfl, HR⟩ := hrel
    have HLi : Hid (l.length = i) := by
      have := rdL_len s.data.toList i z2
      rw [HR.out.1] at this
      exact this
    by_cases hi : i < n
    · have cc3 := HR.out.2.cur.at 3 rfl
      simp only [HLi.out] at cc3
      have hi16 : i < 16 := by omega
      have hd : decide ((i : Int) < (n : Int)) = true := by simp; omega
      go_wp2
      refine wp_region_till (fun W => W.cell? ⟨g5, 3, none⟩ = some (.slice po i pc)) 7 (by kernel_rfl) (fun hcl => ?_)
      have hHeld : wr.drew.cell? ⟨g5, 3, none⟩ = some (.slice po i pc) := cc3
      refine takeT 0 32 (v := .pointer (some ⟨g5, 3, none⟩)) rfl (by kernel_rfl) (by kernel_rfl) (by kernel_rfl) (fun _ _ _ h => h) (Waits.trans (Waits.trans (waits_one (e := 7) (i := 5) (by kernel_rfl)) (waits_one (e := 5) (i := 1) (by kernel_rfl))) (waits_one (e := 1) (i := 0) (by kernel_rfl))) (by decide) hcl rfl (by rfl) (fun w hSw => ?hy) hHeld (fun hcl => ?_)
      case hy =>
        try dsimp only at hSw
        go_simp
      simp only [List.set_cons_zero, List.set_cons_succ]
      refine takeT 1 33 (v := .slice po i pc) rfl (by kernel_rfl) (by kernel_rfl) (by kernel_rfl) (fun _ _ _ h => h) (Waits.trans (waits_one (e := 7) (i := 5) (by kernel_rfl)) (waits_one (e := 5) (i := 1) (by kernel_rfl))) (by decide) hcl rfl (by rfl) (fun w hSw => ?hy) hHeld (fun hcl => ?_)
      case hy =>
        try dsimp only at hSw
        go_simp
      simp only [List.set_cons_zero, List.set_cons_succ]
      refine takeT 2 34 (v := .pointer (some ⟨k, 0, none⟩)) rfl (by kernel_rfl) (by kernel_rfl) (by kernel_rfl) (fun _ _ _ h => h) (Waits.trans (Waits.trans (Waits.trans (waits_one (e := 7) (i := 5) (by kernel_rfl)) (waits_one (e := 5) (i := 4) (by kernel_rfl))) (waits_one (e := 4) (i := 3) (by kernel_rfl))) (waits_one (e := 3) (i := 2) (by kernel_rfl))) (by decide) hcl rfl (by rfl) (fun w hSw => ?hy) hHeld (fun hcl => ?_)
      case hy =>
        try dsimp only at hSw
        go_simp
      simp only [List.set_cons_zero, List.set_cons_succ]
      refine readyT (rs := [3]) (by kernel_rfl) (by simp) ?_
      refine AllT.cons rfl (fun K hK => ?_) AllT.nil
      go_simp
      refine (CN z wr.drew (HR.out.2.rd.later (Below.refl _ _).drew)).mono ?_
      rintro e w2 ⟨rfl, r2, k2⟩
      have H2 : Hid (RS w k g4 g5 s (rdN s.data.toList z).2 ⟨d1, d2, tm, l, 0, noS, noS, noS, noS, 0, 0, 0, 0, []⟩ ⟨po, pc, none, 0⟩ w2) := (HR.out.2.later (Below.refl _ _).drew).call r2 k2
      have cc4 := H2.out.cur.at 3 rfl
      simp only [HLi.out] at cc4
      clear r2 k2
      first | go_simp | skip
      refine hK.out _ _ cc4 ?_
      clear hK K
      try simp only [Act.put, List.setIfInBounds_toArray, List.set_cons_zero, List.set_cons_succ]
      refine readyT (rs := [4]) (by kernel_rfl) (by simp) ?_
      refine AllT.cons rfl (fun K hK => ?_) AllT.nil
      go_simp
      obtain ⟨y, hy⟩ : ∃ y, (rdN s.data.toList z).1 = y := ⟨_, rfl⟩
      rw [hy]
      have HYY : Hid ((rdN s.data.toList z).1 = y) := hy
      clear hy
      have hal : Below w2.heap.size w2 (w2.alloc (.cells #[.int .i64 y] 3)) := (Below.refl _ _).alloc (Nat.le_refl _) _
      have H3 : Hid (RS w k g4 g5 s (rdN s.data.toList z).2 ⟨d1, d2, tm, l, 0, noS, noS, noS, noS, 0, 0, 0, 0, []⟩ ⟨po, pc, none, 0⟩ (w2.alloc (.cells #[.int .i64 y] 3)) ∧ Has (w2.alloc (.cells #[.int .i64 y] 3)) w2.heap.size [.int .i64 y]) := ⟨H2.out.later hal, has_new w2 [.int .i64 y] _⟩
      clear hal
      have cc5 := H3.out.1.cur.at 3 rfl
      simp only [HLi.out] at cc5
      refine hK.out _ _ cc5 ?_
      clear hK K
      try simp only [Act.put, List.setIfInBounds_toArray, List.set_cons_zero, List.set_cons_succ]
      refine readyT (rs := [5]) (by kernel_rfl) (by simp) ?_
      refine AllT.cons rfl (fun K hK => ?_) AllT.nil
      have O3 := H3.out.1.deps
      simp only [HLi.out] at O3
      refine step_onto1 rfl (.tmp 33) (.tmp 36) 24 rfl Try.underlying24 Try.infoInt rfl (by decide) (by decide) (B := g5 + 1) (n := i) (bo := po) (cb := pc) rfl rfl O3 H3.out.2 rfl (fun u hu => by simp only [List.mem_singleton] at hu; subst hu; rfl) (by omega) (by have := H3.out.1.cur.1; omega) ?_
      intro bo cb w4 o4 b4
      have HB4 : Hid (w4.ownsRow (g5 + 1) 3 1 (.slice bo (l ++ [y]).length cb) (l ++ [y]).length (flatI (l ++ [y])) ∧ Below (g5 + 1) (w2.alloc (.cells #[.int .i64 y] 3)) w4) := by
        refine ⟨?_, b4⟩
        rw [List.length_append, HLi.out]
        have e : flatI (l ++ [y]) = flatI l ++ [.int .i64 y] := by simp [flatI]
        rw [e]
        exact o4
      have HM4 : Hid (Has w4 g5 (oL ⟨d1, d2, tm, l, 0, noS, noS, noS, noS, 0, 0, 0, 0, []⟩ ⟨po, pc, none, 0⟩)) := H3.out.1.cur.under (Nat.lt_succ_self _) b4
      have cc6 := HM4.out.at 3 rfl
      simp only [HLi.out] at cc6
      have ff6 := HM4.out.free 3 rfl
      have HF5 : Hid (RS w k g4 g5 s (rdN s.data.toList z).2 ⟨d1, d2, tm, (l ++ [y]), 0, noS, noS, noS, noS, 0, 0, 0, 0, []⟩ ⟨bo, cb, none, 0⟩ (w4.setCell ⟨g5, 3, none⟩ (.slice bo (i + 1) cb))) := by
        have := H3.out.1.depsB HB4.out.2 HB4.out.1 rfl ⟨rfl, rfl⟩
        rw [show (l ++ [y]).length = i + 1 by rw [List.length_append, HLi.out]; rfl] at this
        exact this
      clear o4 b4 O3 cc5 cc4
      refine hK.out _ _ cc6 ?_
      clear hK K
      try simp only [Act.put, List.setIfInBounds_toArray, List.set_cons_zero, List.set_cons_succ]
      refine readyT (rs := [6]) (by kernel_rfl) (by simp) ?_
      refine AllT.cons rfl (fun K hK => ?_) AllT.nil
      go_simp
      refine hK.out _ _ cc6 ?_
      clear hK K
      try simp only [Act.put, List.setIfInBounds_toArray, List.set_cons_zero, List.set_cons_succ]
      refine readyT (rs := [7]) (by kernel_rfl) (by simp) ?_
      refine AllT.late rfl (by kernel_rfl) (fun K hK => ?_) AllT.nil
      go_simp
      refine hK.out _ _ ?_
      clear hK K
      try simp only [Act.put, List.setIfInBounds_toArray, List.set_cons_zero, List.set_cons_succ]
      refine doneT (by kernel_rfl) ?_ _

      generalize hW : w4.setCell ⟨g5, 3, none⟩ (.slice bo (i + 1) cb) = w5 at HF5 ⊢
      clear hW cc6 ff6 cc3 H2 H3 HB4 HM4 hHeld hcl
      go_wp2
      go_roundg (gk - 1)
      case measure => omega
      case rel =>
        refine ⟨i + 1, bo, cb, l ++ [y], (rdN s.data.toList z).2, by omega, by go_num, ?_⟩
        show _ ∧ _
        refine ⟨?_, HF5.out⟩
        have h1 := HR.out.1
        show rdL s.data.toList (i + 1) z2 = _
        simp only [rdL, h1]
        rw [HYY.out]
    · have hd : decide ((i : Int) < (n : Int)) = false := by simp; omega
      have hin : i = n := by omega
      subst hin
      obtain ⟨rfl, rfl⟩ : l = dl ∧ z = z3 := by
        have := HR.out.1
        rw [HL.out] at this
        simp only [Prod.mk.injEq] at this
        exact ⟨this.1.symm, this.2.symm⟩
      have JL : Hid (RS w k g4 g5 s z ⟨d1, d2, tm, l, 0, noS, noS, noS, noS, 0, 0, 0, 0, []⟩ ⟨po, pc, none, 0⟩ wr) := HR.out.2
      clear HR
      obtain ⟨y0, rfl⟩ : ∃ z, z = wr := ⟨_, rfl⟩
      go_upto_region 10 with fail
      go_wp2_with fail
      refine (C4 _ JL.out.rd).mono ?_
      rintro e v10 ⟨rfl, r, kk⟩
      have HC := (JL.out.call r kk).cur
      have cc4 := HC.at 4 rfl
      have ff4 := HC.free 4 rfl
      have J10 : Hid (RS w k g4 g5 s z4 ⟨d1, d2, tm, l, kd, noS, noS, noS, noS, 0, 0, 0, 0, []⟩ ⟨po, pc, none, 0⟩ (World.setCell v10 (⟨g5, 4, none⟩ : Addr) (.int .i64 kd))) := (RS.set (JL.out.call r kk) 4 (.int .i64 kd) ⟨d1, d2, tm, l, kd, noS, noS, noS, noS, 0, 0, 0, 0, []⟩ rfl rfl rfl)
      clear r kk HC
      go_upto_region 11 with fail
      generalize hW : (World.setCell v10 (⟨g5, 4, none⟩ : Addr) (.int .i64 kd)) = x10 at J10 ⊢
      clear hW cc4 ff4 JL
      go_wp2_with fail
      refine (C5 _ J10.out.rd).mono ?_
      rintro e v11 ⟨rfl, r, kk⟩
      have HC := (J10.out.call r kk).cur
      have cc5 := HC.at 5 rfl
      have ff5 := HC.free 5 rfl
      have J11 : Hid (RS w k g4 g5 s z5 ⟨d1, d2, tm, l, kd, ty, noS, noS, noS, 0, 0, 0, 0, []⟩ ⟨po, pc, none, 0⟩ (World.setCell v11 (⟨g5, 5, none⟩ : Addr) (.string ty))) := (RS.set (J10.out.call r kk) 5 (.string ty) ⟨d1, d2, tm, l, kd, ty, noS, noS, noS, 0, 0, 0, 0, []⟩ rfl rfl rfl)
      clear r kk HC
      go_upto_region 12 with fail
      generalize hW : (World.setCell v11 (⟨g5, 5, none⟩ : Addr) (.string ty)) = x11 at J11 ⊢
      clear hW cc5 ff5 J10
      go_wp2_with fail
      refine (C6 _ J11.out.rd).mono ?_
      rintro e v12 ⟨rfl, r, kk⟩
      have HC := (J11.out.call r kk).cur
      have cc6 := HC.at 6 rfl
      have ff6 := HC.free 6 rfl
      have J12 : Hid (RS w k g4 g5 s z6 ⟨d1, d2, tm, l, kd, ty, idd, noS, noS, 0, 0, 0, 0, []⟩ ⟨po, pc, none, 0⟩ (World.setCell v12 (⟨g5, 6, none⟩ : Addr) (.string idd))) := (RS.set (J11.out.call r kk) 6 (.string idd) ⟨d1, d2, tm, l, kd, ty, idd, noS, noS, 0, 0, 0, 0, []⟩ rfl rfl rfl)
      clear r kk HC
      go_upto_region 13 with fail
      generalize hW : (World.setCell v12 (⟨g5, 6, none⟩ : Addr) (.string idd)) = x12 at J12 ⊢
      clear hW cc6 ff6 J11
      go_wp2_with fail
      refine (C7 _ J12.out.rd).mono ?_
      rintro e v13 ⟨rfl, r, kk⟩
      have HC := (J12.out.call r kk).cur
      have cc7 := HC.at 7 rfl
      have ff7 := HC.free 7 rfl
      have J13 : Hid (RS w k g4 g5 s z7 ⟨d1, d2, tm, l, kd, ty, idd, fd, noS, 0, 0, 0, 0, []⟩ ⟨po, pc, none, 0⟩ (World.setCell v13 (⟨g5, 7, none⟩ : Addr) (.string fd))) := (RS.set (J12.out.call r kk) 7 (.string fd) ⟨d1, d2, tm, l, kd, ty, idd, fd, noS, 0, 0, 0, 0, []⟩ rfl rfl rfl)
      clear r kk HC
      go_upto_region 14 with fail
      generalize hW : (World.setCell v13 (⟨g5, 7, none⟩ : Addr) (.string fd)) = x13 at J13 ⊢
      clear hW cc7 ff7 J12
      have hk := HK.out
      rw [HE.out] at hk
      simp only at hk
      clear HK
      subst hk
      have JP : Hid (RS w k g4 g5 s z7 ⟨d1, d2, tm, l, 4, ty, idd, fd, noS, 0, 0, 0, 0, []⟩ ⟨po, pc, none, 0⟩ x13) := J13.out
      clear J13
      have cc4 := JP.out.cur.at 4 rfl
      obtain ⟨⟨r8, r9⟩, z8, h8⟩ : ∃ d z, rdD s.data.toList z7 = (d, z) := ⟨_, _, rfl⟩
      have E8 : Hid (rdD s.data.toList z7 = ((r8, r9), z8)) := h8
      have C8 := CD z7
      rw [h8] at C8
      simp only at C8
      clear h8
      obtain ⟨r10, z9, h9⟩ : ∃ d z, rdT s.data.toList z8 = (d, z) := ⟨_, _, rfl⟩
      have E9 : Hid (rdT s.data.toList z8 = (r10, z9)) := h9
      have C9 := CT z8
      rw [h9] at C9
      simp only at C9
      clear h9
      go_upto_region 22 with fail
      clear cc4
      go_wp2_with fail
      refine (C8 _ JP.out.rd).mono ?_
      rintro e v30 ⟨rfl, r, kk⟩
      have HC := (JP.out.call r kk).cur
      have cc11 := HC.at 11 rfl
      have ff11 := HC.free 11 rfl
      have cc12 := HC.at 12 rfl
      have ff12 := HC.free 12 rfl
      have J30 : Hid (RS w k g4 g5 s z8 ⟨d1, d2, tm, l, 4, ty, idd, fd, noS, 0, 0, r8, r9, []⟩ ⟨po, pc, none, 0⟩ (World.setCell (World.setCell v30 (⟨g5, 11, none⟩ : Addr) (.int .i64 r8)) (⟨g5, 12, none⟩ : Addr) (.int .i64 r9))) := (RS.set (RS.set (JP.out.call r kk) 11 (.int .i64 r8) ⟨d1, d2, tm, l, 4, ty, idd, fd, noS, 0, 0, r8, 0, []⟩ rfl rfl rfl) 12 (.int .i64 r9) ⟨d1, d2, tm, l, 4, ty, idd, fd, noS, 0, 0, r8, r9, []⟩ rfl rfl rfl)
      clear r kk HC
      go_upto_region 23 with fail
      generalize hW : (World.setCell (World.setCell v30 (⟨g5, 11, none⟩ : Addr) (.int .i64 r8)) (⟨g5, 12, none⟩ : Addr) (.int .i64 r9)) = x30 at J30 ⊢
      clear hW cc11 ff11 cc12 ff12 JP
      go_wp2_with fail
      refine (C9 _ J30.out.rd).mono ?_
      rintro e v31 ⟨rfl, r, kk⟩
      have HC := (J30.out.call r kk).cur
      have cc8 := HC.at 8 rfl
      have ff8 := HC.free 8 rfl
      have J31 : Hid (RS w k g4 g5 s z9 ⟨d1, d2, tm, l, 4, ty, idd, fd, r10, 0, 0, r8, r9, []⟩ ⟨po, pc, none, 0⟩ (World.setCell v31 (⟨g5, 8, none⟩ : Addr) (.string r10))) := (RS.set (J30.out.call r kk) 8 (.string r10) ⟨d1, d2, tm, l, 4, ty, idd, fd, r10, 0, 0, r8, r9, []⟩ rfl rfl rfl)
      clear r kk HC
      go_upto_region 32 with fail
      generalize hW : (World.setCell v31 (⟨g5, 8, none⟩ : Addr) (.string r10)) = x31 at J31 ⊢
      clear hW cc8 ff8 J30
      have HO : rdO s.data.toList i = (⟨d1, d2, tm, l, 4, ty, idd, fd, r10, 0, 0, r8, r9, []⟩, z9) := by
        show rdO s.data.toList i = _
        unfold rdO
        rw [HE.out]
        simp [rdTail, E8.out, E9.out]
      have HQ : Hid (EndO s.data.toList i ⟨d1, d2, tm, l, 4, ty, idd, fd, r10, 0, 0, r8, r9, []⟩ z9) := endO_of HO ⟨hn1, hn2⟩
      have HS : Hid (Siz ⟨d1, d2, tm, l, 4, ty, idd, fd, r10, 0, 0, r8, r9, []⟩) := by
        have := siz_rd s.data.toList i hn2
        rw [HO] at this
        exact this
      clear HO
      cases hzz : z9 with
      | none =>
        rw [hzz] at J31 HQ
        obtain ⟨a, hR, ha⟩ : ∃ a : Nat, Has x31 k [.string s, .int .i64 (a : Nat), .bool true] ∧ a ≤ s.size := J31.out.rd
        obtain ⟨⟨c0, c1, c2⟩, _⟩ := hR.three
        clear hR hzz
        obtain ⟨b0, b1, b2, b3, b4, b5, b6, b7, b8, b9, b10, b11, b12, b13⟩ := (show Has _ g4 zL from J31.out.res).f14
        obtain ⟨f0, f1, f2, f3, f4, f5, f6, f7, f8, f9, f10, f11, f12, f13⟩ := (show Has _ g4 zL from J31.out.res).f14f
        have HEND : Hid (Has (putO14 x31 g4 o0 pq0) g4 zL ∧ OOwn g4 (putO14 x31 g4 o0 pq0) o0 pq0 ∧ Below g4 w (putO14 x31 g4 o0 pq0)) := zero_put J31.out.res (Kept.below J31.out.ko (Nat.le_of_eq HW4.out.symm) (fun j hj => by subst hj; exact HK4.out)) (Nat.le_refl _)
        have HG : Hid (getO s.data.toList (i : Nat) = o0 ∧ getE s.data.toList (i : Nat) = 1100) := HQ.out.no (Or.inl (by simp))
        go_wp2
        rw [HG.out.1, HG.out.2]
        dsimp only [putO14, put14, List.length_nil, o0, pq0] at HEND
        generalize hW : World.setCell _ (⟨g4, 13, none⟩ : Addr) _ = w9 at HEND ⊢
        exact bodyPost_ret (ret_op2 rfl rfl rfl HEND.out.1) rfl ⟨pq0, rfl, HEND.out.2⟩
      | some c =>
        rw [hzz] at J31 HQ
        obtain ⟨hR, hc⟩ : Has x31 k [.string s, .int .i64 (c : Nat), .bool false] ∧ c ≤ s.size := J31.out.rd
        obtain ⟨⟨c0, c1, c2⟩, _⟩ := hR.three
        clear hR hzz
        by_cases hcs : c = s.size
        · subst hcs
          have hn : ((s.size : Int) != (s.size : Int)) = false := by simp
          have hn2 : (s.size != s.size) = false := by simp
          obtain ⟨a0, a1, a2, a3, a4, a5, a6, a7, a8, a9, a10, a11, a12, a13⟩ := (show Has _ g5 (oL ⟨d1, d2, tm, l, 4, ty, idd, fd, r10, 0, 0, r8, r9, []⟩ ⟨po, pc, none, 0⟩) from J31.out.cur).f14
          have C := ropmay_any ⟨d1, d2, tm, l, 4, ty, idd, fd, r10, 0, 0, r8, r9, []⟩ ⟨po, pc, none, 0⟩ (i : Nat) x31 (OOwn.row (B := g5 + 1) ⟨J31.out.deps, J31.out.dots⟩) HS.out
          cases hmay : mayO ⟨d1, d2, tm, l, 4, ty, idd, fd, r10, 0, 0, r8, r9, []⟩ (i : Nat) with
          | false =>
            have HMY : Hid (mayO ⟨d1, d2, tm, l, 4, ty, idd, fd, r10, 0, 0, r8, r9, []⟩ (i : Nat) = false) := hmay
            rw [hmay] at C
            clear hmay
            go_wp2_with fail
            refine C.mono ?_
            rintro e y5 ⟨rfl, b5⟩
            have HY : Hid (RS w k g4 g5 s (some s.size) ⟨d1, d2, tm, l, 4, ty, idd, fd, r10, 0, 0, r8, r9, []⟩ ⟨po, pc, none, 0⟩ y5) := J31.out.later b5
            clear b5 J31 C a0 a1 a2 a3 a4 a5 a6 a7 a8 a9 a10 a11 a12 a13 c0 c1 c2
            obtain ⟨b0, b1, b2, b3, b4, b5, b6, b7, b8, b9, b10, b11, b12, b13⟩ := (show Has _ g4 zL from HY.out.res).f14
            obtain ⟨f0, f1, f2, f3, f4, f5, f6, f7, f8, f9, f10, f11, f12, f13⟩ := (show Has _ g4 zL from HY.out.res).f14f
            have HEND : Hid (Has (putO14 y5 g4 o0 pq0) g4 zL ∧ OOwn g4 (putO14 y5 g4 o0 pq0) o0 pq0 ∧ Below g4 w (putO14 y5 g4 o0 pq0)) := zero_put HY.out.res (Kept.below HY.out.ko (Nat.le_of_eq HW4.out.symm) (fun j hj => by subst hj; exact HK4.out)) (Nat.le_refl _)
            have HG : Hid (getO s.data.toList (i : Nat) = o0 ∧ getE s.data.toList (i : Nat) = 1100) := HQ.out.no (Or.inr HMY.out)
            go_wp2
            rw [HG.out.1, HG.out.2]
            dsimp only [putO14, put14, List.length_nil, o0, pq0] at HEND
            generalize hW : World.setCell _ (⟨g4, 13, none⟩ : Addr) _ = w9 at HEND ⊢
            exact bodyPost_ret (ret_op2 rfl rfl rfl HEND.out.1) rfl ⟨pq0, rfl, HEND.out.2⟩
          | true =>
            have HMY : Hid (mayO ⟨d1, d2, tm, l, 4, ty, idd, fd, r10, 0, 0, r8, r9, []⟩ (i : Nat) = true) := hmay
            rw [hmay] at C
            clear hmay
            go_wp2_with fail
            refine C.mono ?_
            rintro e y5 ⟨rfl, b5⟩
            have HY : Hid (RS w k g4 g5 s (some s.size) ⟨d1, d2, tm, l, 4, ty, idd, fd, r10, 0, 0, r8, r9, []⟩ ⟨po, pc, none, 0⟩ y5) := J31.out.later b5
            clear b5 J31 C a0 a1 a2 a3 a4 a5 a6 a7 a8 a9 a10 a11 a12 a13 c0 c1 c2
            obtain ⟨a0, a1, a2, a3, a4, a5, a6, a7, a8, a9, a10, a11, a12, a13⟩ := (show Has _ g5 (oL ⟨d1, d2, tm, l, 4, ty, idd, fd, r10, 0, 0, r8, r9, []⟩ ⟨po, pc, none, 0⟩) from HY.out.cur).f14
            obtain ⟨b0, b1, b2, b3, b4, b5, b6, b7, b8, b9, b10, b11, b12, b13⟩ := (show Has _ g4 zL from HY.out.res).f14
            obtain ⟨f0, f1, f2, f3, f4, f5, f6, f7, f8, f9, f10, f11, f12, f13⟩ := (show Has _ g4 zL from HY.out.res).f14f
            have HEND : Hid (Has (putO14 y5 g4 ⟨d1, d2, tm, l, 4, ty, idd, fd, r10, 0, 0, r8, r9, []⟩ ⟨po, pc, none, 0⟩) g4 (oL ⟨d1, d2, tm, l, 4, ty, idd, fd, r10, 0, 0, r8, r9, []⟩ ⟨po, pc, none, 0⟩) ∧ OOwn g4 (putO14 y5 g4 ⟨d1, d2, tm, l, 4, ty, idd, fd, r10, 0, 0, r8, r9, []⟩ ⟨po, pc, none, 0⟩) ⟨d1, d2, tm, l, 4, ty, idd, fd, r10, 0, 0, r8, r9, []⟩ ⟨po, pc, none, 0⟩ ∧ Below g4 w (putO14 y5 g4 ⟨d1, d2, tm, l, 4, ty, idd, fd, r10, 0, 0, r8, r9, []⟩ ⟨po, pc, none, 0⟩)) := ⟨has_putO ⟨d1, d2, tm, l, 4, ty, idd, fd, r10, 0, 0, r8, r9, []⟩ ⟨po, pc, none, 0⟩ HY.out.res rfl, (OOwn.put (⟨HY.out.deps, HY.out.dots⟩ : OOwn (g5 + 1) _ ⟨d1, d2, tm, l, 4, ty, idd, fd, r10, 0, 0, r8, r9, []⟩ ⟨po, pc, none, 0⟩) (by have := HY.out.h45; omega)).mono (by have := HY.out.h45; omega), below_put14 (Kept.below HY.out.ko (Nat.le_of_eq HW4.out.symm) (fun j hj => by subst hj; exact HK4.out)) (Nat.le_refl _) _ _⟩
            have HG : Hid (getO s.data.toList (i : Nat) = ⟨d1, d2, tm, l, 4, ty, idd, fd, r10, 0, 0, r8, r9, []⟩ ∧ getE s.data.toList (i : Nat) = 0) := HQ.out.yes (by simp) HMY.out
            clear HY
            go_wp2
            rw [HG.out.1, HG.out.2]
            dsimp only [putO14, put14, List.length_nil] at HEND
            generalize hW : World.setCell _ (⟨g4, 13, none⟩ : Addr) _ = w9 at HEND ⊢
            exact bodyPost_ret (ret_op2 rfl rfl rfl HEND.out.1) rfl ⟨⟨po, pc, none, 0⟩, rfl, HEND.out.2⟩
        · have hn : ((c : Int) != (s.size : Int)) = true := by rw [bne_iff_ne]; omega
          have hn2 : (c != s.size) = true := by rw [bne_iff_ne]; exact hcs
          obtain ⟨b0, b1, b2, b3, b4, b5, b6, b7, b8, b9, b10, b11, b12, b13⟩ := (show Has _ g4 zL from J31.out.res).f14
          obtain ⟨f0, f1, f2, f3, f4, f5, f6, f7, f8, f9, f10, f11, f12, f13⟩ := (show Has _ g4 zL from J31.out.res).f14f
          have HEND : Hid (Has (putO14 x31 g4 o0 pq0) g4 zL ∧ OOwn g4 (putO14 x31 g4 o0 pq0) o0 pq0 ∧ Below g4 w (putO14 x31 g4 o0 pq0)) := zero_put J31.out.res (Kept.below J31.out.ko (Nat.le_of_eq HW4.out.symm) (fun j hj => by subst hj; exact HK4.out)) (Nat.le_refl _)
          have HG : Hid (getO s.data.toList (i : Nat) = o0 ∧ getE s.data.toList (i : Nat) = 1100) := HQ.out.no (Or.inl (by simp [hcs]))
          go_wp2
          rw [HG.out.1, HG.out.2]
          dsimp only [putO14, put14, List.length_nil, o0, pq0] at HEND
          generalize hW : World.setCell _ (⟨g4, 13, none⟩ : Addr) _ = w9 at HEND ⊢
          exact bodyPost_ret (ret_op2 rfl rfl rfl HEND.out.1) rfl ⟨pq0, rfl, HEND.out.2⟩

end Go.Proofs.Ytjfgccjdkflfoaa

