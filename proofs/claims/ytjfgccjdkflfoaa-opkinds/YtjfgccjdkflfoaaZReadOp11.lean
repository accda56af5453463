/-
  Package op's reader: a whole operation, by contract.
-/
import Derived.Test.YtjfgccjdkflfoaaZPack3
import Derived.Test.YtjfgccjdkflfoaaZWhat11
namespace Go.Proofs.Ytjfgccjdkflfoaa
open Go.RowKit
set_option linter.unusedVariables false
set_option linter.unusedSimpArgs false

set_option maxHeartbeats 1000000 in
set_option maxRecDepth 100000 in
/-- More dots are told than may be. -/
theorem rdots_no (k : Nat) (s : ByteArray) (z : Option Nat) (w : World) (hs : s.size ≤ maxLen) (h : Rdr k s z w) (h64 : 64 < (rdN s.data.toList z).1) :
    Calls Try.prog 54 #[.pointer (some ⟨k, 0, none⟩)] w fun e w' => e = .returned (.slice none 0 0) ∧ Rdr k s none w' ∧ KO k w w' := by
  have C1 := rnum_any k s z w hs h
  generalize hz : rdN s.data.toList z = p at C1 h64 ⊢
  obtain ⟨m, z1⟩ := p
  clear hz h
  simp only at C1 h64 ⊢
  go_enter Try.func54, Try.ntmps54
  go_wp2_with fail
  refine C1.mono ?_
  rintro e w1 ⟨rfl, r1, k1⟩
  obtain ⟨c, f, H0⟩ : ∃ (c : Nat) (f : Bool), Hid (Has w1 k [.string s, .int .i64 (c : Nat), .bool f] ∧ c ≤ s.size ∧ KO k w w1) := by
    cases z1 with
    | none => obtain ⟨a, h, ha⟩ := r1; exact ⟨a, true, h, ha, k1⟩
    | some c => exact ⟨c, false, r1.1, r1.2, k1⟩
  clear r1 k1 C1
  obtain ⟨⟨c0, c1, c2⟩, f1, f2⟩ := H0.out.1.three
  go_wp2
  go_ret
  exact ⟨rfl, ⟨c, H0.out.1.put 2 _, H0.out.2.1⟩, H0.out.2.2.trans (ko_put (Below.refl _ _) _ _)⟩

set_option maxHeartbeats 8000000 in
set_option maxRecDepth 100000 in
theorem rop_any (k : Nat) (s : ByteArray) (n : Nat) (w : World) (hs : s.size ≤ maxLen) (hn : n ≤ 16) (h : Rdr k s (some 0) w) :
    Calls Try.prog 26 #[.pointer (some ⟨k, 0, none⟩), .int .i64 (n : Nat)] w fun e w' => ∃ q, e = .returned (oV (rdO s.data.toList n).1 q) ∧ OOwn w.heap.size w' (rdO s.data.toList n).1 q ∧ Rdr k s (rdO s.data.toList n).2 w' ∧ KO k w w' := by
  obtain ⟨⟨d1, d2⟩, z1, e1⟩ : ∃ d z, rdD s.data.toList (some 0) = (d, z) := ⟨_, _, rfl⟩
  obtain ⟨tm, z2, e2⟩ : ∃ d z, rdN s.data.toList z1 = (d, z) := ⟨_, _, rfl⟩
  obtain ⟨dl, z3, e3⟩ : ∃ d z, rdL s.data.toList n z2 = (d, z) := ⟨_, _, rfl⟩
  obtain ⟨kd, z4, e4⟩ : ∃ d z, rdN s.data.toList z3 = (d, z) := ⟨_, _, rfl⟩
  obtain ⟨ty, z5, e5⟩ : ∃ d z, rdT s.data.toList z4 = (d, z) := ⟨_, _, rfl⟩
  obtain ⟨idd, z6, e6⟩ : ∃ d z, rdT s.data.toList z5 = (d, z) := ⟨_, _, rfl⟩
  obtain ⟨fd, z7, e7⟩ : ∃ d z, rdT s.data.toList z6 = (d, z) := ⟨_, _, rfl⟩
  have HE : Hid (rdHead s.data.toList n = (⟨d1, d2, tm, dl, kd, ty, idd, fd, noS, 0, 0, 0, 0, []⟩, z7)) := by
    show rdHead s.data.toList n = _
    simp only [rdHead, e1, e2, e3, e4, e5, e6, e7]
  have CN : ∀ z W, Rdr k s z W → Calls Try.prog 51 #[.pointer (some ⟨k, 0, none⟩)] W fun e w' => e = .returned (.int .i64 (rdN s.data.toList z).1) ∧ Rdr k s (rdN s.data.toList z).2 w' ∧ KO k W w' := fun z W H => rnum_any k s z W hs H
  have CT : ∀ z W, Rdr k s z W → Calls Try.prog 52 #[.pointer (some ⟨k, 0, none⟩)] W fun e w' => e = .returned (.string (rdT s.data.toList z).1) ∧ Rdr k s (rdT s.data.toList z).2 w' ∧ KO k W w' := fun z W H => rtext_any k s z W hs H
  have CD : ∀ z W, Rdr k s z W → Calls Try.prog 50 #[.pointer (some ⟨k, 0, none⟩)] W fun e w' => e = .returned (.agg #[.int .i64 (rdD s.data.toList z).1.1, .int .i64 (rdD s.data.toList z).1.2]) ∧ Rdr k s (rdD s.data.toList z).2 w' ∧ KO k W w' := fun z W H => rdot_any k s z W hs H
  have C1 := CD (some 0)
  rw [e1] at C1
  have C2 := CN z1
  rw [e2] at C2
  have C4 := CN z3
  rw [e4] at C4
  have C5 := CT z4
  rw [e5] at C5
  have C6 := CT z5
  rw [e6] at C6
  have C7 := CT z6
  rw [e7] at C7
  simp only at C1 C2 C4 C5 C6 C7
  have HL : Hid (rdL s.data.toList n z2 = (dl, z3)) := e3
  have HLN : Hid (dl.length = n) := by
    have := rdL_len s.data.toList n z2
    rw [e3] at this
    exact this
  clear e1 e2 e3 e4 e5 e6 e7
  obtain ⟨g4, hg4⟩ : ∃ g, w.heap.size = g := ⟨_, rfl⟩
  obtain ⟨g5, hg5⟩ : ∃ g, g4 + 1 = g := ⟨_, rfl⟩
  have hk4 : k < g4 := hg4 ▸ h.lt
  have H0 : Hid (RS w k g4 g5 s (some 0) ⟨0, 0, 0, [], 0, noS, noS, noS, noS, 0, 0, 0, 0, []⟩ pq0 ((w.alloc (.cells zL.toArray 29)).alloc (.cells zL.toArray 29))) := by
    subst hg5 hg4
    have a1 : Below w.heap.size w (w.alloc (.cells zL.toArray 29)) := (Below.refl _ _).alloc (Nat.le_refl _) _
    have a2 : Below (w.alloc (.cells zL.toArray 29)).heap.size (w.alloc (.cells zL.toArray 29)) ((w.alloc (.cells zL.toArray 29)).alloc (.cells zL.toArray 29)) := (Below.refl _ _).alloc (Nat.le_refl _) _
    have n2 := has_new (w.alloc (.cells zL.toArray 29)) zL 29
    rw [World.size_alloc] at n2
    exact ⟨(h.later a1).later a2, (has_new w zL _).later a2, n2, own_nil _ _ _ _, own_nil _ _ _ _, (Kept.of a1).trans (Kept.of a2), by omega, by omega, by omega, Nat.le_refl _⟩
  clear h
  go_enter Try.func26, Try.ntmps26
  go_upto_region 2 with fail
  generalize hW : (w.alloc (.cells zL.toArray 29)).alloc (.cells zL.toArray 29) = w0 at H0 ⊢
  try simp only [hg4, hg5, World.size_alloc]
  clear hW
  go_wp2_with fail
  refine (C1 _ H0.out.rd).mono ?_
  rintro e v0 ⟨rfl, r, kk⟩
  have HC := (H0.out.call r kk).cur
  have cc0 := HC.at 0 rfl
  have ff0 := HC.free 0 rfl
  have cc1 := HC.at 1 rfl
  have ff1 := HC.free 1 rfl
  have J0 : Hid (RS w k g4 g5 s z1 ⟨d1, d2, 0, [], 0, noS, noS, noS, noS, 0, 0, 0, 0, []⟩ pq0 (World.setCell (World.setCell v0 (⟨g5, 0, none⟩ : Addr) (.int .i64 d1)) (⟨g5, 1, none⟩ : Addr) (.int .i64 d2))) := (RS.set (RS.set (H0.out.call r kk) 0 (.int .i64 d1) ⟨d1, 0, 0, [], 0, noS, noS, noS, noS, 0, 0, 0, 0, []⟩ rfl rfl rfl) 1 (.int .i64 d2) ⟨d1, d2, 0, [], 0, noS, noS, noS, noS, 0, 0, 0, 0, []⟩ rfl rfl rfl)
  clear r kk HC
  go_upto_region 3 with fail
  generalize hW : (World.setCell (World.setCell v0 (⟨g5, 0, none⟩ : Addr) (.int .i64 d1)) (⟨g5, 1, none⟩ : Addr) (.int .i64 d2)) = x0 at J0 ⊢
  clear hW cc0 ff0 cc1 ff1 H0
  go_wp2_with fail
  refine (C2 _ J0.out.rd).mono ?_
  rintro e v1 ⟨rfl, r, kk⟩
  have HC := (J0.out.call r kk).cur
  have cc2 := HC.at 2 rfl
  have ff2 := HC.free 2 rfl
  have J1 : Hid (RS w k g4 g5 s z2 ⟨d1, d2, tm, [], 0, noS, noS, noS, noS, 0, 0, 0, 0, []⟩ pq0 (World.setCell v1 (⟨g5, 2, none⟩ : Addr) (.int .i64 tm))) := (RS.set (J0.out.call r kk) 2 (.int .i64 tm) ⟨d1, d2, tm, [], 0, noS, noS, noS, noS, 0, 0, 0, 0, []⟩ rfl rfl rfl)
  clear r kk HC
  go_upto_region 4 with fail
  generalize hW : (World.setCell v1 (⟨g5, 2, none⟩ : Addr) (.int .i64 tm)) = x1 at J1 ⊢
  clear hW cc2 ff2 J0
  go_wp2
  go_loopg [15] n (fun m iv wr => ∃ (i : Nat) (po : Option Addr) (pc : Nat) (l : List Int) (z : Option Nat), i + m = n ∧ iv = .int .i64 (i : Nat) ∧ Hid (rdL s.data.toList i z2 = (l, z) ∧ RS w k g4 g5 s z ⟨d1, d2, tm, l, 0, noS, noS, noS, noS, 0, 0, 0, 0, []⟩ ⟨po, pc, none, 0⟩ wr))
  case atStart => exact ⟨0, none, 0, [], z2, by omega, rfl, rfl, J1.out⟩
  case round =>
    clear J1
    obtain ⟨i, po, pc, l, z, him, rfl, HR⟩ := hrel
    have HLi : Hid (l.length = i) := by
      have := rdL_len s.data.toList i z2
      rw [HR.out.1] at this
      exact this
    by_cases hi : i < n
    · have cc3 := HR.out.2.cur.at 3 rfl
      simp only [HLi.out] at cc3
      have hi16 : i < 16 := by omega
      have hd : decide ((i : Int) < (n : Int)) = true := by simp; omega
      go_wp2
      refine wp_region_till (fun W => W.cell? ⟨g5, 3, none⟩ = some (.slice po i pc)) 7 (by kernel_rfl) (fun hcl => ?_)
      have hHeld : wr.drew.cell? ⟨g5, 3, none⟩ = some (.slice po i pc) := cc3
      refine takeT 0 17 (v := .pointer (some ⟨g5, 3, none⟩)) rfl (by kernel_rfl) (by kernel_rfl) (by kernel_rfl) (fun _ _ _ h => h) (Waits.trans (Waits.trans (waits_one (e := 7) (i := 5) (by kernel_rfl)) (waits_one (e := 5) (i := 1) (by kernel_rfl))) (waits_one (e := 1) (i := 0) (by kernel_rfl))) (by decide) hcl rfl (by rfl) (fun w hSw => ?hy) hHeld (fun hcl => ?_)
      case hy =>
        try dsimp only at hSw
        go_simp
      simp only [List.set_cons_zero, List.set_cons_succ]
      refine takeT 1 18 (v := .slice po i pc) rfl (by kernel_rfl) (by kernel_rfl) (by kernel_rfl) (fun _ _ _ h => h) (Waits.trans (waits_one (e := 7) (i := 5) (by kernel_rfl)) (waits_one (e := 5) (i := 1) (by kernel_rfl))) (by decide) hcl rfl (by rfl) (fun w hSw => ?hy) hHeld (fun hcl => ?_)
      case hy =>
        try dsimp only at hSw
        go_simp
      simp only [List.set_cons_zero, List.set_cons_succ]
      refine takeT 2 19 (v := .pointer (some ⟨k, 0, none⟩)) rfl (by kernel_rfl) (by kernel_rfl) (by kernel_rfl) (fun _ _ _ h => h) (Waits.trans (Waits.trans (Waits.trans (waits_one (e := 7) (i := 5) (by kernel_rfl)) (waits_one (e := 5) (i := 4) (by kernel_rfl))) (waits_one (e := 4) (i := 3) (by kernel_rfl))) (waits_one (e := 3) (i := 2) (by kernel_rfl))) (by decide) hcl rfl (by rfl) (fun w hSw => ?hy) hHeld (fun hcl => ?_)
      case hy =>
        try dsimp only at hSw
        go_simp
      simp only [List.set_cons_zero, List.set_cons_succ]
      refine readyT (rs := [3]) (by kernel_rfl) (by simp) ?_
      refine AllT.cons rfl (fun K hK => ?_) AllT.nil
      go_simp
      refine (CN z wr.drew (HR.out.2.rd.later (Below.refl _ _).drew)).mono ?_
      rintro e w2 ⟨rfl, r2, k2⟩
      have H2 : Hid (RS w k g4 g5 s (rdN s.data.toList z).2 ⟨d1, d2, tm, l, 0, noS, noS, noS, noS, 0, 0, 0, 0, []⟩ ⟨po, pc, none, 0⟩ w2) := (HR.out.2.later (Below.refl _ _).drew).call r2 k2
      have cc4 := H2.out.cur.at 3 rfl
      simp only [HLi.out] at cc4
      clear r2 k2
      first | go_simp | skip
      refine hK.out _ _ cc4 ?_
      clear hK K
      try simp only [Act.put, List.setIfInBounds_toArray, List.set_cons_zero, List.set_cons_succ]
      refine readyT (rs := [4]) (by kernel_rfl) (by simp) ?_
      refine AllT.cons rfl (fun K hK => ?_) AllT.nil
      go_simp
      obtain ⟨y, hy⟩ : ∃ y, (rdN s.data.toList z).1 = y := ⟨_, rfl⟩
      rw [hy]
      have HYY : Hid ((rdN s.data.toList z).1 = y) := hy
      clear hy
      have hal : Below w2.heap.size w2 (w2.alloc (.cells #[.int .i64 y] 3)) := (Below.refl _ _).alloc (Nat.le_refl _) _
      have H3 : Hid (RS w k g4 g5 s (rdN s.data.toList z).2 ⟨d1, d2, tm, l, 0, noS, noS, noS, noS, 0, 0, 0, 0, []⟩ ⟨po, pc, none, 0⟩ (w2.alloc (.cells #[.int .i64 y] 3)) ∧ Has (w2.alloc (.cells #[.int .i64 y] 3)) w2.heap.size [.int .i64 y]) := ⟨H2.out.later hal, has_new w2 [.int .i64 y] _⟩
      clear hal
      have cc5 := H3.out.1.cur.at 3 rfl
      simp only [HLi.out] at cc5
      refine hK.out _ _ cc5 ?_
      clear hK K
      try simp only [Act.put, List.setIfInBounds_toArray, List.set_cons_zero, List.set_cons_succ]
      refine readyT (rs := [5]) (by kernel_rfl) (by simp) ?_
      refine AllT.cons rfl (fun K hK => ?_) AllT.nil
      have O3 := H3.out.1.deps
      simp only [HLi.out] at O3
      refine step_onto1 rfl (.tmp 18) (.tmp 21) 24 rfl Try.underlying24 Try.infoInt rfl (by decide) (by decide) (B := g5 + 1) (n := i) (bo := po) (cb := pc) rfl rfl O3 H3.out.2 rfl (fun u hu => by simp only [List.mem_singleton] at hu; subst hu; rfl) (by omega) (by have := H3.out.1.cur.1; omega) ?_
      intro bo cb w4 o4 b4
      have HB4 : Hid (w4.ownsRow (g5 + 1) 3 1 (.slice bo (l ++ [y]).length cb) (l ++ [y]).length (flatI (l ++ [y])) ∧ Below (g5 + 1) (w2.alloc (.cells #[.int .i64 y] 3)) w4) := by
        refine ⟨?_, b4⟩
        rw [List.length_append, HLi.out]
        have e : flatI (l ++ [y]) = flatI l ++ [.int .i64 y] := by simp [flatI]
        rw [e]
        exact o4
      have HM4 : Hid (Has w4 g5 (oL ⟨d1, d2, tm, l, 0, noS, noS, noS, noS, 0, 0, 0, 0, []⟩ ⟨po, pc, none, 0⟩)) := H3.out.1.cur.under (Nat.lt_succ_self _) b4
      have cc6 := HM4.out.at 3 rfl
      simp only [HLi.out] at cc6
      have ff6 := HM4.out.free 3 rfl
      have HF5 : Hid (RS w k g4 g5 s (rdN s.data.toList z).2 ⟨d1, d2, tm, (l ++ [y]), 0, noS, noS, noS, noS, 0, 0, 0, 0, []⟩ ⟨bo, cb, none, 0⟩ (w4.setCell ⟨g5, 3, none⟩ (.slice bo (i + 1) cb))) := by
        have := H3.out.1.depsB HB4.out.2 HB4.out.1 rfl ⟨rfl, rfl⟩
        rw [show (l ++ [y]).length = i + 1 by rw [List.length_append, HLi.out]; rfl] at this
        exact this
      clear o4 b4 O3 cc5 cc4
      refine hK.out _ _ cc6 ?_
      clear hK K
      try simp only [Act.put, List.setIfInBounds_toArray, List.set_cons_zero, List.set_cons_succ]
      refine readyT (rs := [6]) (by kernel_rfl) (by simp) ?_
      refine AllT.cons rfl (fun K hK => ?_) AllT.nil
      go_simp
      refine hK.out _ _ cc6 ?_
      clear hK K
      try simp only [Act.put, List.setIfInBounds_toArray, List.set_cons_zero, List.set_cons_succ]
      refine readyT (rs := [7]) (by kernel_rfl) (by simp) ?_
      refine AllT.late rfl (by kernel_rfl) (fun K hK => ?_) AllT.nil
      go_simp
      refine hK.out _ _ ?_
      clear hK K
      try simp only [Act.put, List.setIfInBounds_toArray, List.set_cons_zero, List.set_cons_succ]
      refine doneT (by kernel_rfl) ?_ _

      generalize hW : w4.setCell ⟨g5, 3, none⟩ (.slice bo (i + 1) cb) = w5 at HF5 ⊢
      clear hW cc6 ff6 cc3 H2 H3 HB4 HM4 hHeld hcl
      go_wp2
      go_roundg (gk - 1)
      case measure => omega
      case rel =>
        refine ⟨i + 1, bo, cb, l ++ [y], (rdN s.data.toList z).2, by omega, by go_num, ?_⟩
        show _ ∧ _
        refine ⟨?_, HF5.out⟩
        have h1 := HR.out.1
        show rdL s.data.toList (i + 1) z2 = _
        simp only [rdL, h1]
        rw [HYY.out]
    · have hd : decide ((i : Int) < (n : Int)) = false := by simp; omega
      have hin : i = n := by omega
      subst hin
      obtain ⟨rfl, rfl⟩ : l = dl ∧ z = z3 := by
        have := HR.out.1
        rw [HL.out] at this
        simp only [Prod.mk.injEq] at this
        exact ⟨this.1.symm, this.2.symm⟩
      have JL : Hid (RS w k g4 g5 s z ⟨d1, d2, tm, l, 0, noS, noS, noS, noS, 0, 0, 0, 0, []⟩ ⟨po, pc, none, 0⟩ wr) := HR.out.2
      clear HR
      obtain ⟨y0, rfl⟩ : ∃ z, z = wr := ⟨_, rfl⟩
      go_upto_region 8 with fail
      go_wp2_with fail
      refine (C4 _ JL.out.rd).mono ?_
      rintro e v10 ⟨rfl, r, kk⟩
      have HC := (JL.out.call r kk).cur
      have cc4 := HC.at 4 rfl
      have ff4 := HC.free 4 rfl
      have J10 : Hid (RS w k g4 g5 s z4 ⟨d1, d2, tm, l, kd, noS, noS, noS, noS, 0, 0, 0, 0, []⟩ ⟨po, pc, none, 0⟩ (World.setCell v10 (⟨g5, 4, none⟩ : Addr) (.int .i64 kd))) := (RS.set (JL.out.call r kk) 4 (.int .i64 kd) ⟨d1, d2, tm, l, kd, noS, noS, noS, noS, 0, 0, 0, 0, []⟩ rfl rfl rfl)
      clear r kk HC
      go_upto_region 9 with fail
      generalize hW : (World.setCell v10 (⟨g5, 4, none⟩ : Addr) (.int .i64 kd)) = x10 at J10 ⊢
      clear hW cc4 ff4 JL
      go_wp2_with fail
      refine (C5 _ J10.out.rd).mono ?_
      rintro e v11 ⟨rfl, r, kk⟩
      have HC := (J10.out.call r kk).cur
      have cc5 := HC.at 5 rfl
      have ff5 := HC.free 5 rfl
      have J11 : Hid (RS w k g4 g5 s z5 ⟨d1, d2, tm, l, kd, ty, noS, noS, noS, 0, 0, 0, 0, []⟩ ⟨po, pc, none, 0⟩ (World.setCell v11 (⟨g5, 5, none⟩ : Addr) (.string ty))) := (RS.set (J10.out.call r kk) 5 (.string ty) ⟨d1, d2, tm, l, kd, ty, noS, noS, noS, 0, 0, 0, 0, []⟩ rfl rfl rfl)
      clear r kk HC
      go_upto_region 10 with fail
      generalize hW : (World.setCell v11 (⟨g5, 5, none⟩ : Addr) (.string ty)) = x11 at J11 ⊢
      clear hW cc5 ff5 J10
      go_wp2_with fail
      refine (C6 _ J11.out.rd).mono ?_
      rintro e v12 ⟨rfl, r, kk⟩
      have HC := (J11.out.call r kk).cur
      have cc6 := HC.at 6 rfl
      have ff6 := HC.free 6 rfl
      have J12 : Hid (RS w k g4 g5 s z6 ⟨d1, d2, tm, l, kd, ty, idd, noS, noS, 0, 0, 0, 0, []⟩ ⟨po, pc, none, 0⟩ (World.setCell v12 (⟨g5, 6, none⟩ : Addr) (.string idd))) := (RS.set (J11.out.call r kk) 6 (.string idd) ⟨d1, d2, tm, l, kd, ty, idd, noS, noS, 0, 0, 0, 0, []⟩ rfl rfl rfl)
      clear r kk HC
      go_upto_region 11 with fail
      generalize hW : (World.setCell v12 (⟨g5, 6, none⟩ : Addr) (.string idd)) = x12 at J12 ⊢
      clear hW cc6 ff6 J11
      go_wp2_with fail
      refine (C7 _ J12.out.rd).mono ?_
      rintro e v13 ⟨rfl, r, kk⟩
      have HC := (J12.out.call r kk).cur
      have cc7 := HC.at 7 rfl
      have ff7 := HC.free 7 rfl
      have J13 : Hid (RS w k g4 g5 s z7 ⟨d1, d2, tm, l, kd, ty, idd, fd, noS, 0, 0, 0, 0, []⟩ ⟨po, pc, none, 0⟩ (World.setCell v13 (⟨g5, 7, none⟩ : Addr) (.string fd))) := (RS.set (J12.out.call r kk) 7 (.string fd) ⟨d1, d2, tm, l, kd, ty, idd, fd, noS, 0, 0, 0, 0, []⟩ rfl rfl rfl)
      clear r kk HC
      go_upto_region 12 with fail
      generalize hW : (World.setCell v13 (⟨g5, 7, none⟩ : Addr) (.string fd)) = x13 at J13 ⊢
      clear hW cc7 ff7 J12
      have cc4 := J13.out.cur.at 4 rfl
      go_wp2_with fail
      refine (parts_any kd _).mono ?_
      rintro e u1 ⟨rfl, b1⟩
      obtain ⟨kp, hkp⟩ : ∃ g, u1.heap.size = g := ⟨_, rfl⟩
      have HP : Hid (RS w k g4 g5 s z7 ⟨d1, d2, tm, l, kd, ty, idd, fd, noS, 0, 0, 0, 0, []⟩ ⟨po, pc, none, 0⟩ (u1.alloc (.cells (pL kd).toArray 77)) ∧ Has (u1.alloc (.cells (pL kd).toArray 77)) kp (pL kd) ∧ g5 < kp ∧ k ≠ kp) := by
        have hal : Below u1.heap.size u1 (u1.alloc (.cells (pL kd).toArray 77)) := (Below.refl _ _).alloc (Nat.le_refl _) _
        have R := (J13.out.later b1)
        exact ⟨R.later hal, hkp ▸ has_new u1 (pL kd) _, by have := R.cur.1; omega, by have := R.cur.1; have := R.kg; omega⟩
      clear J13 b1 cc4
      go_upto_region 13 with fail
      generalize hW : u1.alloc (.cells (pL kd).toArray 77) = x20 at HP ⊢
      clear hW hkp
      obtain ⟨p0, p1, p2, p3, p4⟩ := (show Has x20 kp (pL kd) from HP.out.2.1).fiveP
      have hk : kd = 0 ∨ kd = 1 ∨ kd = 2 ∨ kd = 3 ∨ kd = 4 ∨ kd = 5 ∨ ¬ (0 ≤ kd ∧ kd ≤ 5) := by omega
      rcases hk with rfl | rfl | rfl | rfl | rfl | rfl | hk
      · have c1 : pNum 0 = false := rfl
        have c2 : pDot 0 = false := rfl
        have c3 : pRef 0 = false := rfl
        have c4 : pVal 0 = true := rfl
        rw [c1] at p1
        rw [c2] at p2
        rw [c3] at p3
        rw [c4] at p4
        have JP : Hid (RS w k g4 g5 s z7 ⟨d1, d2, tm, l, 0, ty, idd, fd, noS, 0, 0, 0, 0, []⟩ ⟨po, pc, none, 0⟩ x20) := HP.out.1
        have KP : Hid (Has x20 kp (pL 0) ∧ g5 < kp ∧ k ≠ kp) := HP.out.2
        clear HP
        obtain ⟨r8, z8, h8⟩ : ∃ d z, rdT s.data.toList z7 = (d, z) := ⟨_, _, rfl⟩
        have E8 : Hid (rdT s.data.toList z7 = (r8, z8)) := h8
        have C8 := CT z7
        rw [h8] at C8
        simp only at C8
        clear h8
        go_upto_region 21 with fail
        go_wp2_with fail
        refine (C8 _ JP.out.rd).mono ?_
        rintro e v30 ⟨rfl, r, kk⟩
        have HC := (JP.out.call r kk).cur
        have cc8 := HC.at 8 rfl
        have ff8 := HC.free 8 rfl
        have J30 : Hid (RS w k g4 g5 s z8 ⟨d1, d2, tm, l, 0, ty, idd, fd, r8, 0, 0, 0, 0, []⟩ ⟨po, pc, none, 0⟩ (World.setCell v30 (⟨g5, 8, none⟩ : Addr) (.string r8))) := (RS.set (JP.out.call r kk) 8 (.string r8) ⟨d1, d2, tm, l, 0, ty, idd, fd, r8, 0, 0, 0, 0, []⟩ rfl rfl rfl)
        have K30 : Hid (Has (World.setCell v30 (⟨g5, 8, none⟩ : Addr) (.string r8)) kp (pL 0) ∧ g5 < kp ∧ k ≠ kp) := ⟨((KP.out.1.ko kk (fun e => KP.out.2.2 e.symm)).other (by have := KP.out.2.1; omega) _ _), KP.out.2⟩
        have P30 := (show Has _ kp (pL 0) from KP.out.1.ko kk (fun e => KP.out.2.2 e.symm)).fiveP
        obtain ⟨t0, t1, t2, t3, t4⟩ := P30
        rw [c1] at t1
        rw [c2] at t2
        rw [c3] at t3
        rw [c4] at t4
        clear r kk HC p0 p1 p2 p3 p4
        go_upto_region 22 with fail
        generalize hW : (World.setCell v30 (⟨g5, 8, none⟩ : Addr) (.string r8)) = x30 at J30 K30 ⊢
        clear hW cc8 ff8 JP KP t0 t1 t2 t3 t4
        obtain ⟨p0, p1, p2, p3, p4⟩ := (show Has _ kp (pL 0) from K30.out.1).fiveP
        rw [c1] at p1
        rw [c2] at p2
        rw [c3] at p3
        rw [c4] at p4
        obtain ⟨a0, a1, a2, a3, a4, a5, a6, a7, a8, a9, a10, a11, a12, a13⟩ := (show Has _ g5 (oL ⟨d1, d2, tm, l, 0, ty, idd, fd, r8, 0, 0, 0, 0, []⟩ ⟨po, pc, none, 0⟩) from J30.out.cur).f14
        obtain ⟨b0, b1, b2, b3, b4, b5, b6, b7, b8, b9, b10, b11, b12, b13⟩ := (show Has _ g4 zL from J30.out.res).f14
        obtain ⟨f0, f1, f2, f3, f4, f5, f6, f7, f8, f9, f10, f11, f12, f13⟩ := (show Has _ g4 zL from J30.out.res).f14f
        have hh4 := J30.out.h4
        have hh5 := J30.out.h45
        have HEND : Hid (Has (putO14 x30 g4 ⟨d1, d2, tm, l, 0, ty, idd, fd, r8, 0, 0, 0, 0, []⟩ ⟨po, pc, none, 0⟩) g4 (oL ⟨d1, d2, tm, l, 0, ty, idd, fd, r8, 0, 0, 0, 0, []⟩ ⟨po, pc, none, 0⟩) ∧ OOwn g4 (putO14 x30 g4 ⟨d1, d2, tm, l, 0, ty, idd, fd, r8, 0, 0, 0, 0, []⟩ ⟨po, pc, none, 0⟩) ⟨d1, d2, tm, l, 0, ty, idd, fd, r8, 0, 0, 0, 0, []⟩ ⟨po, pc, none, 0⟩ ∧ Rdr k s z8 (putO14 x30 g4 ⟨d1, d2, tm, l, 0, ty, idd, fd, r8, 0, 0, 0, 0, []⟩ ⟨po, pc, none, 0⟩) ∧ KO k w (putO14 x30 g4 ⟨d1, d2, tm, l, 0, ty, idd, fd, r8, 0, 0, 0, 0, []⟩ ⟨po, pc, none, 0⟩)) :=
          ⟨has_putO ⟨d1, d2, tm, l, 0, ty, idd, fd, r8, 0, 0, 0, 0, []⟩ ⟨po, pc, none, 0⟩ J30.out.res rfl, (OOwn.put (⟨J30.out.deps, J30.out.dots⟩ : OOwn (g5 + 1) _ ⟨d1, d2, tm, l, 0, ty, idd, fd, r8, 0, 0, 0, 0, []⟩ ⟨po, pc, none, 0⟩) (by omega)).mono (by omega), rdr_put14 J30.out.rd J30.out.k4 _ _, ko_put14 J30.out.ko hh4 _ _⟩
        have HO : Hid (rdO s.data.toList i = (⟨d1, d2, tm, l, 0, ty, idd, fd, r8, 0, 0, 0, 0, []⟩, z8)) := by
          show rdO s.data.toList i = _
          unfold rdO
          rw [HE.out]
          simp [rdTail, E8.out]
        clear J30 hh4 hh5
        go_wp2
        rw [HO.out]
        dsimp only [putO14, put14, List.length_nil] at HEND
        generalize hW : World.setCell _ (⟨g4, 13, none⟩ : Addr) _ = w9 at HEND ⊢
        exact bodyPost_ret (ret_op rfl rfl HEND.out.1) rfl ⟨⟨po, pc, none, 0⟩, rfl, HEND.out.2⟩
      · have c1 : pNum 1 = true := rfl
        have c2 : pDot 1 = false := rfl
        have c3 : pRef 1 = false := rfl
        have c4 : pVal 1 = false := rfl
        rw [c1] at p1
        rw [c2] at p2
        rw [c3] at p3
        rw [c4] at p4
        have JP : Hid (RS w k g4 g5 s z7 ⟨d1, d2, tm, l, 1, ty, idd, fd, noS, 0, 0, 0, 0, []⟩ ⟨po, pc, none, 0⟩ x20) := HP.out.1
        have KP : Hid (Has x20 kp (pL 1) ∧ g5 < kp ∧ k ≠ kp) := HP.out.2
        clear HP
        obtain ⟨r8, z8, h8⟩ : ∃ d z, rdN s.data.toList z7 = (d, z) := ⟨_, _, rfl⟩
        have E8 : Hid (rdN s.data.toList z7 = (r8, z8)) := h8
        have C8 := CN z7
        rw [h8] at C8
        simp only at C8
        clear h8
        obtain ⟨r9, z9, h9⟩ : ∃ d z, rdN s.data.toList z8 = (d, z) := ⟨_, _, rfl⟩
        have E9 : Hid (rdN s.data.toList z8 = (r9, z9)) := h9
        have C9 := CN z8
        rw [h9] at C9
        simp only at C9
        clear h9
        go_upto_region 14 with fail
        go_wp2_with fail
        refine (C8 _ JP.out.rd).mono ?_
        rintro e v30 ⟨rfl, r, kk⟩
        have hb := rdN_bound (s := s.data.toList) (z := z7)
        rw [E8.out] at hb
        simp only at hb
        go_wp2_with fail
        refine (unfold_any r8 _ hb).mono ?_
        rintro e u0 ⟨rfl, hu0⟩
        have hu1 := hu0.symm
        clear hu0 hb
        subst hu1
        have HC := (JP.out.call r kk).cur
        have cc9 := HC.at 9 rfl
        have ff9 := HC.free 9 rfl
        have J30 : Hid (RS w k g4 g5 s z8 ⟨d1, d2, tm, l, 1, ty, idd, fd, noS, (unfI r8), 0, 0, 0, []⟩ ⟨po, pc, none, 0⟩ (World.setCell v30 (⟨g5, 9, none⟩ : Addr) (.int .i64 (unfI r8)))) := (RS.set (JP.out.call r kk) 9 (.int .i64 (unfI r8)) ⟨d1, d2, tm, l, 1, ty, idd, fd, noS, (unfI r8), 0, 0, 0, []⟩ rfl rfl rfl)
        have K30 : Hid (Has (World.setCell v30 (⟨g5, 9, none⟩ : Addr) (.int .i64 (unfI r8))) kp (pL 1) ∧ g5 < kp ∧ k ≠ kp) := ⟨((KP.out.1.ko kk (fun e => KP.out.2.2 e.symm)).other (by have := KP.out.2.1; omega) _ _), KP.out.2⟩
        have P30 := (show Has _ kp (pL 1) from KP.out.1.ko kk (fun e => KP.out.2.2 e.symm)).fiveP
        obtain ⟨t0, t1, t2, t3, t4⟩ := P30
        rw [c1] at t1
        rw [c2] at t2
        rw [c3] at t3
        rw [c4] at t4
        clear r kk HC p0 p1 p2 p3 p4
        go_upto_region 15 with fail
        generalize hW : (World.setCell v30 (⟨g5, 9, none⟩ : Addr) (.int .i64 (unfI r8))) = x30 at J30 K30 ⊢
        clear hW cc9 ff9 JP KP t0 t1 t2 t3 t4
        obtain ⟨p0, p1, p2, p3, p4⟩ := (show Has _ kp (pL 1) from K30.out.1).fiveP
        rw [c1] at p1
        rw [c2] at p2
        rw [c3] at p3
        rw [c4] at p4
        go_wp2_with fail
        refine (C9 _ J30.out.rd).mono ?_
        rintro e v31 ⟨rfl, r, kk⟩
        have hb := rdN_bound (s := s.data.toList) (z := z8)
        rw [E9.out] at hb
        simp only at hb
        go_wp2_with fail
        refine (unfold_any r9 _ hb).mono ?_
        rintro e u0 ⟨rfl, hu0⟩
        have hu1 := hu0.symm
        clear hu0 hb
        subst hu1
        have HC := (J30.out.call r kk).cur
        have cc10 := HC.at 10 rfl
        have ff10 := HC.free 10 rfl
        have J31 : Hid (RS w k g4 g5 s z9 ⟨d1, d2, tm, l, 1, ty, idd, fd, noS, (unfI r8), (unfI r9), 0, 0, []⟩ ⟨po, pc, none, 0⟩ (World.setCell v31 (⟨g5, 10, none⟩ : Addr) (.int .i64 (unfI r9)))) := (RS.set (J30.out.call r kk) 10 (.int .i64 (unfI r9)) ⟨d1, d2, tm, l, 1, ty, idd, fd, noS, (unfI r8), (unfI r9), 0, 0, []⟩ rfl rfl rfl)
        have K31 : Hid (Has (World.setCell v31 (⟨g5, 10, none⟩ : Addr) (.int .i64 (unfI r9))) kp (pL 1) ∧ g5 < kp ∧ k ≠ kp) := ⟨((K30.out.1.ko kk (fun e => K30.out.2.2 e.symm)).other (by have := K30.out.2.1; omega) _ _), K30.out.2⟩
        have P31 := (show Has _ kp (pL 1) from K30.out.1.ko kk (fun e => K30.out.2.2 e.symm)).fiveP
        obtain ⟨t0, t1, t2, t3, t4⟩ := P31
        rw [c1] at t1
        rw [c2] at t2
        rw [c3] at t3
        rw [c4] at t4
        clear r kk HC p0 p1 p2 p3 p4
        go_upto_region 22 with fail
        generalize hW : (World.setCell v31 (⟨g5, 10, none⟩ : Addr) (.int .i64 (unfI r9))) = x31 at J31 K31 ⊢
        clear hW cc10 ff10 J30 K30 t0 t1 t2 t3 t4
        obtain ⟨p0, p1, p2, p3, p4⟩ := (show Has _ kp (pL 1) from K31.out.1).fiveP
        rw [c1] at p1
        rw [c2] at p2
        rw [c3] at p3
        rw [c4] at p4
        obtain ⟨a0, a1, a2, a3, a4, a5, a6, a7, a8, a9, a10, a11, a12, a13⟩ := (show Has _ g5 (oL ⟨d1, d2, tm, l, 1, ty, idd, fd, noS, (unfI r8), (unfI r9), 0, 0, []⟩ ⟨po, pc, none, 0⟩) from J31.out.cur).f14
        obtain ⟨b0, b1, b2, b3, b4, b5, b6, b7, b8, b9, b10, b11, b12, b13⟩ := (show Has _ g4 zL from J31.out.res).f14
        obtain ⟨f0, f1, f2, f3, f4, f5, f6, f7, f8, f9, f10, f11, f12, f13⟩ := (show Has _ g4 zL from J31.out.res).f14f
        have hh4 := J31.out.h4
        have hh5 := J31.out.h45
        have HEND : Hid (Has (putO14 x31 g4 ⟨d1, d2, tm, l, 1, ty, idd, fd, noS, (unfI r8), (unfI r9), 0, 0, []⟩ ⟨po, pc, none, 0⟩) g4 (oL ⟨d1, d2, tm, l, 1, ty, idd, fd, noS, (unfI r8), (unfI r9), 0, 0, []⟩ ⟨po, pc, none, 0⟩) ∧ OOwn g4 (putO14 x31 g4 ⟨d1, d2, tm, l, 1, ty, idd, fd, noS, (unfI r8), (unfI r9), 0, 0, []⟩ ⟨po, pc, none, 0⟩) ⟨d1, d2, tm, l, 1, ty, idd, fd, noS, (unfI r8), (unfI r9), 0, 0, []⟩ ⟨po, pc, none, 0⟩ ∧ Rdr k s z9 (putO14 x31 g4 ⟨d1, d2, tm, l, 1, ty, idd, fd, noS, (unfI r8), (unfI r9), 0, 0, []⟩ ⟨po, pc, none, 0⟩) ∧ KO k w (putO14 x31 g4 ⟨d1, d2, tm, l, 1, ty, idd, fd, noS, (unfI r8), (unfI r9), 0, 0, []⟩ ⟨po, pc, none, 0⟩)) :=
          ⟨has_putO ⟨d1, d2, tm, l, 1, ty, idd, fd, noS, (unfI r8), (unfI r9), 0, 0, []⟩ ⟨po, pc, none, 0⟩ J31.out.res rfl, (OOwn.put (⟨J31.out.deps, J31.out.dots⟩ : OOwn (g5 + 1) _ ⟨d1, d2, tm, l, 1, ty, idd, fd, noS, (unfI r8), (unfI r9), 0, 0, []⟩ ⟨po, pc, none, 0⟩) (by omega)).mono (by omega), rdr_put14 J31.out.rd J31.out.k4 _ _, ko_put14 J31.out.ko hh4 _ _⟩
        have HO : Hid (rdO s.data.toList i = (⟨d1, d2, tm, l, 1, ty, idd, fd, noS, (unfI r8), (unfI r9), 0, 0, []⟩, z9)) := by
          show rdO s.data.toList i = _
          unfold rdO
          rw [HE.out]
          simp [rdTail, E8.out, E9.out]
        clear J31 hh4 hh5
        go_wp2
        rw [HO.out]
        dsimp only [putO14, put14, List.length_nil] at HEND
        generalize hW : World.setCell _ (⟨g4, 13, none⟩ : Addr) _ = w9 at HEND ⊢
        exact bodyPost_ret (ret_op rfl rfl HEND.out.1) rfl ⟨⟨po, pc, none, 0⟩, rfl, HEND.out.2⟩
      · have c1 : pNum 2 = false := rfl
        have c2 : pDot 2 = false := rfl
        have c3 : pRef 2 = false := rfl
        have c4 : pVal 2 = true := rfl
        rw [c1] at p1
        rw [c2] at p2
        rw [c3] at p3
        rw [c4] at p4
        have JP : Hid (RS w k g4 g5 s z7 ⟨d1, d2, tm, l, 2, ty, idd, fd, noS, 0, 0, 0, 0, []⟩ ⟨po, pc, none, 0⟩ x20) := HP.out.1
        have KP : Hid (Has x20 kp (pL 2) ∧ g5 < kp ∧ k ≠ kp) := HP.out.2
        clear HP
        obtain ⟨r8, z8, h8⟩ : ∃ d z, rdT s.data.toList z7 = (d, z) := ⟨_, _, rfl⟩
        have E8 : Hid (rdT s.data.toList z7 = (r8, z8)) := h8
        have C8 := CT z7
        rw [h8] at C8
        simp only at C8
        clear h8
        go_upto_region 21 with fail
        go_wp2_with fail
        refine (C8 _ JP.out.rd).mono ?_
        rintro e v30 ⟨rfl, r, kk⟩
        have HC := (JP.out.call r kk).cur
        have cc8 := HC.at 8 rfl
        have ff8 := HC.free 8 rfl
        have J30 : Hid (RS w k g4 g5 s z8 ⟨d1, d2, tm, l, 2, ty, idd, fd, r8, 0, 0, 0, 0, []⟩ ⟨po, pc, none, 0⟩ (World.setCell v30 (⟨g5, 8, none⟩ : Addr) (.string r8))) := (RS.set (JP.out.call r kk) 8 (.string r8) ⟨d1, d2, tm, l, 2, ty, idd, fd, r8, 0, 0, 0, 0, []⟩ rfl rfl rfl)
        have K30 : Hid (Has (World.setCell v30 (⟨g5, 8, none⟩ : Addr) (.string r8)) kp (pL 2) ∧ g5 < kp ∧ k ≠ kp) := ⟨((KP.out.1.ko kk (fun e => KP.out.2.2 e.symm)).other (by have := KP.out.2.1; omega) _ _), KP.out.2⟩
        have P30 := (show Has _ kp (pL 2) from KP.out.1.ko kk (fun e => KP.out.2.2 e.symm)).fiveP
        obtain ⟨t0, t1, t2, t3, t4⟩ := P30
        rw [c1] at t1
        rw [c2] at t2
        rw [c3] at t3
        rw [c4] at t4
        clear r kk HC p0 p1 p2 p3 p4
        go_upto_region 22 with fail
        generalize hW : (World.setCell v30 (⟨g5, 8, none⟩ : Addr) (.string r8)) = x30 at J30 K30 ⊢
        clear hW cc8 ff8 JP KP t0 t1 t2 t3 t4
        obtain ⟨p0, p1, p2, p3, p4⟩ := (show Has _ kp (pL 2) from K30.out.1).fiveP
        rw [c1] at p1
        rw [c2] at p2
        rw [c3] at p3
        rw [c4] at p4
        obtain ⟨a0, a1, a2, a3, a4, a5, a6, a7, a8, a9, a10, a11, a12, a13⟩ := (show Has _ g5 (oL ⟨d1, d2, tm, l, 2, ty, idd, fd, r8, 0, 0, 0, 0, []⟩ ⟨po, pc, none, 0⟩) from J30.out.cur).f14
        obtain ⟨b0, b1, b2, b3, b4, b5, b6, b7, b8, b9, b10, b11, b12, b13⟩ := (show Has _ g4 zL from J30.out.res).f14
        obtain ⟨f0, f1, f2, f3, f4, f5, f6, f7, f8, f9, f10, f11, f12, f13⟩ := (show Has _ g4 zL from J30.out.res).f14f
        have hh4 := J30.out.h4
        have hh5 := J30.out.h45
        have HEND : Hid (Has (putO14 x30 g4 ⟨d1, d2, tm, l, 2, ty, idd, fd, r8, 0, 0, 0, 0, []⟩ ⟨po, pc, none, 0⟩) g4 (oL ⟨d1, d2, tm, l, 2, ty, idd, fd, r8, 0, 0, 0, 0, []⟩ ⟨po, pc, none, 0⟩) ∧ OOwn g4 (putO14 x30 g4 ⟨d1, d2, tm, l, 2, ty, idd, fd, r8, 0, 0, 0, 0, []⟩ ⟨po, pc, none, 0⟩) ⟨d1, d2, tm, l, 2, ty, idd, fd, r8, 0, 0, 0, 0, []⟩ ⟨po, pc, none, 0⟩ ∧ Rdr k s z8 (putO14 x30 g4 ⟨d1, d2, tm, l, 2, ty, idd, fd, r8, 0, 0, 0, 0, []⟩ ⟨po, pc, none, 0⟩) ∧ KO k w (putO14 x30 g4 ⟨d1, d2, tm, l, 2, ty, idd, fd, r8, 0, 0, 0, 0, []⟩ ⟨po, pc, none, 0⟩)) :=
          ⟨has_putO ⟨d1, d2, tm, l, 2, ty, idd, fd, r8, 0, 0, 0, 0, []⟩ ⟨po, pc, none, 0⟩ J30.out.res rfl, (OOwn.put (⟨J30.out.deps, J30.out.dots⟩ : OOwn (g5 + 1) _ ⟨d1, d2, tm, l, 2, ty, idd, fd, r8, 0, 0, 0, 0, []⟩ ⟨po, pc, none, 0⟩) (by omega)).mono (by omega), rdr_put14 J30.out.rd J30.out.k4 _ _, ko_put14 J30.out.ko hh4 _ _⟩
        have HO : Hid (rdO s.data.toList i = (⟨d1, d2, tm, l, 2, ty, idd, fd, r8, 0, 0, 0, 0, []⟩, z8)) := by
          show rdO s.data.toList i = _
          unfold rdO
          rw [HE.out]
          simp [rdTail, E8.out]
        clear J30 hh4 hh5
        go_wp2
        rw [HO.out]
        dsimp only [putO14, put14, List.length_nil] at HEND
        generalize hW : World.setCell _ (⟨g4, 13, none⟩ : Addr) _ = w9 at HEND ⊢
        exact bodyPost_ret (ret_op rfl rfl HEND.out.1) rfl ⟨⟨po, pc, none, 0⟩, rfl, HEND.out.2⟩
      · have c1 : pNum 3 = false := rfl
        have c2 : pDot 3 = true := rfl
        have c3 : pRef 3 = false := rfl
        have c4 : pVal 3 = false := rfl
        rw [c1] at p1
        rw [c2] at p2
        rw [c3] at p3
        rw [c4] at p4
        have JP : Hid (RS w k g4 g5 s z7 ⟨d1, d2, tm, l, 3, ty, idd, fd, noS, 0, 0, 0, 0, []⟩ ⟨po, pc, none, 0⟩ x20) := HP.out.1
        have KP : Hid (Has x20 kp (pL 3) ∧ g5 < kp ∧ k ≠ kp) := HP.out.2
        clear HP
        go_upto_region 17 with fail
        by_cases h64 : 64 < (rdN s.data.toList z7).1
        · have H64 : Hid (64 < (rdN s.data.toList z7).1) := h64
          clear h64
          go_wp2_with fail
          refine (rdots_no k s z7 _ hs JP.out.rd H64.out).mono ?_
          rintro e v40 ⟨rfl, r, kk⟩
          have HC := (JP.out.call r kk).cur
          have cc13 := HC.at 13 rfl
          have ff13 := HC.free 13 rfl
          have J40 : Hid (RS w k g4 g5 s none ⟨d1, d2, tm, l, 3, ty, idd, fd, noS, 0, 0, 0, 0, []⟩ ⟨po, pc, none, 0⟩ (World.setCell v40 (⟨g5, 13, none⟩ : Addr) (.slice none 0 0))) := RS.set (JP.out.call r kk) 13 (.slice none 0 0) ⟨d1, d2, tm, l, 3, ty, idd, fd, noS, 0, 0, 0, 0, []⟩ rfl rfl rfl
          have P1 := (show Has _ kp (pL 3) from KP.out.1.ko kk (fun e => KP.out.2.2 e.symm)).fiveP
          obtain ⟨t0, t1, t2, t3, t4⟩ := P1
          rw [c1] at t1
          rw [c2] at t2
          rw [c3] at t3
          rw [c4] at t4
          clear r kk HC p0 p1 p2 p3 p4
          go_upto_region 22 with fail
          generalize hW : (World.setCell v40 (⟨g5, 13, none⟩ : Addr) (.slice none 0 0)) = x40 at J40 ⊢
          clear hW cc13 ff13 JP KP t0 t1 t2 t3 t4
          obtain ⟨a0, a1, a2, a3, a4, a5, a6, a7, a8, a9, a10, a11, a12, a13⟩ := (show Has _ g5 (oL ⟨d1, d2, tm, l, 3, ty, idd, fd, noS, 0, 0, 0, 0, []⟩ ⟨po, pc, none, 0⟩) from J40.out.cur).f14
          obtain ⟨b0, b1, b2, b3, b4, b5, b6, b7, b8, b9, b10, b11, b12, b13⟩ := (show Has _ g4 zL from J40.out.res).f14
          obtain ⟨f0, f1, f2, f3, f4, f5, f6, f7, f8, f9, f10, f11, f12, f13⟩ := (show Has _ g4 zL from J40.out.res).f14f
          have hh4 := J40.out.h4
          have hh5 := J40.out.h45
          have HEND : Hid (Has (putO14 x40 g4 ⟨d1, d2, tm, l, 3, ty, idd, fd, noS, 0, 0, 0, 0, []⟩ ⟨po, pc, none, 0⟩) g4 (oL ⟨d1, d2, tm, l, 3, ty, idd, fd, noS, 0, 0, 0, 0, []⟩ ⟨po, pc, none, 0⟩) ∧ OOwn g4 (putO14 x40 g4 ⟨d1, d2, tm, l, 3, ty, idd, fd, noS, 0, 0, 0, 0, []⟩ ⟨po, pc, none, 0⟩) ⟨d1, d2, tm, l, 3, ty, idd, fd, noS, 0, 0, 0, 0, []⟩ ⟨po, pc, none, 0⟩ ∧ Rdr k s none (putO14 x40 g4 ⟨d1, d2, tm, l, 3, ty, idd, fd, noS, 0, 0, 0, 0, []⟩ ⟨po, pc, none, 0⟩) ∧ KO k w (putO14 x40 g4 ⟨d1, d2, tm, l, 3, ty, idd, fd, noS, 0, 0, 0, 0, []⟩ ⟨po, pc, none, 0⟩)) :=
            ⟨has_putO ⟨d1, d2, tm, l, 3, ty, idd, fd, noS, 0, 0, 0, 0, []⟩ ⟨po, pc, none, 0⟩ J40.out.res rfl, (OOwn.put (⟨J40.out.deps, J40.out.dots⟩ : OOwn (g5 + 1) _ ⟨d1, d2, tm, l, 3, ty, idd, fd, noS, 0, 0, 0, 0, []⟩ ⟨po, pc, none, 0⟩) (by omega)).mono (by omega), rdr_put14 J40.out.rd J40.out.k4 _ _, ko_put14 J40.out.ko hh4 _ _⟩
          have HO : Hid (rdO s.data.toList i = (⟨d1, d2, tm, l, 3, ty, idd, fd, noS, 0, 0, 0, 0, []⟩, none)) := by
            show rdO s.data.toList i = _
            unfold rdO
            rw [HE.out]
            simp only [rdTail]
            rw [if_neg (by decide), if_pos trivial, if_pos H64.out]
          clear J40 hh4 hh5
          go_wp2
          rw [HO.out]
          dsimp only [putO14, put14, List.length_nil] at HEND
          generalize hW : World.setCell _ (⟨g4, 13, none⟩ : Addr) _ = w9 at HEND ⊢
          exact bodyPost_ret (ret_op rfl rfl HEND.out.1) rfl ⟨⟨po, pc, none, 0⟩, rfl, HEND.out.2⟩
        · have H64 : Hid ((rdN s.data.toList z7).1 ≤ 64) := Int.not_lt.1 h64
          clear h64
          go_wp2_with fail
          refine (rdots_yes k s z7 _ hs JP.out.rd (Int.not_lt.2 H64.out)).mono ?_
          have hlen := rdM_len s.data.toList (rdN s.data.toList z7).1.toNat (rdN s.data.toList z7).2
          obtain ⟨l2, hl2⟩ : ∃ l, (rdM s.data.toList (rdN s.data.toList z7).1.toNat (rdN s.data.toList z7).2).1 = l := ⟨_, rfl⟩
          obtain ⟨z9, hz9⟩ : ∃ l, (rdM s.data.toList (rdN s.data.toList z7).1.toNat (rdN s.data.toList z7).2).2 = l := ⟨_, rfl⟩
          obtain ⟨m2, hm2⟩ : ∃ l, l2.length = l := ⟨_, rfl⟩
          rw [hl2, hz9, hm2]
          have E9 : Hid ((rdM s.data.toList (rdN s.data.toList z7).1.toNat (rdN s.data.toList z7).2).1 = l2 ∧ (rdM s.data.toList (rdN s.data.toList z7).1.toNat (rdN s.data.toList z7).2).2 = z9 ∧ m2 = l2.length ∧ (rdN s.data.toList z7).1 ≤ 64) := ⟨hl2, hz9, hm2.symm, H64.out⟩
          clear hl2 hz9 hm2 hlen H64
          rintro e v40 ⟨ao, ca, rfl, own, r, kk⟩
          have HC := (JP.out.call r kk).cur
          have cc13 := HC.at 13 rfl
          have ff13 := HC.free 13 rfl
          have J40 : Hid (RS w k g4 g5 s z9 ⟨d1, d2, tm, l, 3, ty, idd, fd, noS, 0, 0, 0, 0, l2⟩ ⟨po, pc, ao, ca⟩ (World.setCell v40 (⟨g5, 13, none⟩ : Addr) (.slice ao m2 ca))) := RS.dotsB JP.out r kk E9.out.2.2.1 own
          have P1 := (show Has _ kp (pL 3) from KP.out.1.ko kk (fun e => KP.out.2.2 e.symm)).fiveP
          obtain ⟨t0, t1, t2, t3, t4⟩ := P1
          rw [c1] at t1
          rw [c2] at t2
          rw [c3] at t3
          rw [c4] at t4
          clear r kk HC p0 p1 p2 p3 p4 own
          go_upto_region 22 with fail
          generalize hW : (World.setCell v40 (⟨g5, 13, none⟩ : Addr) (.slice ao m2 ca)) = x40 at J40 ⊢
          clear hW cc13 ff13 JP KP t0 t1 t2 t3 t4
          obtain ⟨a0, a1, a2, a3, a4, a5, a6, a7, a8, a9, a10, a11, a12, a13⟩ := (show Has _ g5 (oL ⟨d1, d2, tm, l, 3, ty, idd, fd, noS, 0, 0, 0, 0, l2⟩ ⟨po, pc, ao, ca⟩) from J40.out.cur).f14
          obtain ⟨b0, b1, b2, b3, b4, b5, b6, b7, b8, b9, b10, b11, b12, b13⟩ := (show Has _ g4 zL from J40.out.res).f14
          obtain ⟨f0, f1, f2, f3, f4, f5, f6, f7, f8, f9, f10, f11, f12, f13⟩ := (show Has _ g4 zL from J40.out.res).f14f
          have hh4 := J40.out.h4
          have hh5 := J40.out.h45
          have HEND : Hid (Has (putO14 x40 g4 ⟨d1, d2, tm, l, 3, ty, idd, fd, noS, 0, 0, 0, 0, l2⟩ ⟨po, pc, ao, ca⟩) g4 (oL ⟨d1, d2, tm, l, 3, ty, idd, fd, noS, 0, 0, 0, 0, l2⟩ ⟨po, pc, ao, ca⟩) ∧ OOwn g4 (putO14 x40 g4 ⟨d1, d2, tm, l, 3, ty, idd, fd, noS, 0, 0, 0, 0, l2⟩ ⟨po, pc, ao, ca⟩) ⟨d1, d2, tm, l, 3, ty, idd, fd, noS, 0, 0, 0, 0, l2⟩ ⟨po, pc, ao, ca⟩ ∧ Rdr k s z9 (putO14 x40 g4 ⟨d1, d2, tm, l, 3, ty, idd, fd, noS, 0, 0, 0, 0, l2⟩ ⟨po, pc, ao, ca⟩) ∧ KO k w (putO14 x40 g4 ⟨d1, d2, tm, l, 3, ty, idd, fd, noS, 0, 0, 0, 0, l2⟩ ⟨po, pc, ao, ca⟩)) :=
            ⟨has_putO ⟨d1, d2, tm, l, 3, ty, idd, fd, noS, 0, 0, 0, 0, l2⟩ ⟨po, pc, ao, ca⟩ J40.out.res rfl, (OOwn.put (⟨J40.out.deps, J40.out.dots⟩ : OOwn (g5 + 1) _ ⟨d1, d2, tm, l, 3, ty, idd, fd, noS, 0, 0, 0, 0, l2⟩ ⟨po, pc, ao, ca⟩) (by omega)).mono (by omega), rdr_put14 J40.out.rd J40.out.k4 _ _, ko_put14 J40.out.ko hh4 _ _⟩
          have HO : Hid (rdO s.data.toList i = (⟨d1, d2, tm, l, 3, ty, idd, fd, noS, 0, 0, 0, 0, l2⟩, z9)) := by
            show rdO s.data.toList i = _
            unfold rdO
            rw [HE.out]
            simp only [rdTail]
            rw [if_neg (by decide), if_pos trivial, if_neg (Int.not_lt.2 E9.out.2.2.2), E9.out.1, E9.out.2.1]
          clear J40 hh4 hh5
          go_wp2
          rw [HO.out]
          dsimp only [putO14, put14, List.length_nil] at HEND
          generalize hW : World.setCell _ (⟨g4, 13, none⟩ : Addr) _ = w9 at HEND ⊢
          exact bodyPost_ret (ret_op rfl rfl HEND.out.1) rfl ⟨⟨po, pc, ao, ca⟩, rfl, HEND.out.2⟩
      · have c1 : pNum 4 = false := rfl
        have c2 : pDot 4 = false := rfl
        have c3 : pRef 4 = true := rfl
        have c4 : pVal 4 = true := rfl
        rw [c1] at p1
        rw [c2] at p2
        rw [c3] at p3
        rw [c4] at p4
        have JP : Hid (RS w k g4 g5 s z7 ⟨d1, d2, tm, l, 4, ty, idd, fd, noS, 0, 0, 0, 0, []⟩ ⟨po, pc, none, 0⟩ x20) := HP.out.1
        have KP : Hid (Has x20 kp (pL 4) ∧ g5 < kp ∧ k ≠ kp) := HP.out.2
        clear HP
        obtain ⟨⟨r8, r9⟩, z8, h8⟩ : ∃ d z, rdD s.data.toList z7 = (d, z) := ⟨_, _, rfl⟩
        have E8 : Hid (rdD s.data.toList z7 = ((r8, r9), z8)) := h8
        have C8 := CD z7
        rw [h8] at C8
        simp only at C8
        clear h8
        obtain ⟨r10, z9, h9⟩ : ∃ d z, rdT s.data.toList z8 = (d, z) := ⟨_, _, rfl⟩
        have E9 : Hid (rdT s.data.toList z8 = (r10, z9)) := h9
        have C9 := CT z8
        rw [h9] at C9
        simp only at C9
        clear h9
        go_upto_region 19 with fail
        go_wp2_with fail
        refine (C8 _ JP.out.rd).mono ?_
        rintro e v30 ⟨rfl, r, kk⟩
        have HC := (JP.out.call r kk).cur
        have cc11 := HC.at 11 rfl
        have ff11 := HC.free 11 rfl
        have cc12 := HC.at 12 rfl
        have ff12 := HC.free 12 rfl
        have J30 : Hid (RS w k g4 g5 s z8 ⟨d1, d2, tm, l, 4, ty, idd, fd, noS, 0, 0, r8, r9, []⟩ ⟨po, pc, none, 0⟩ (World.setCell (World.setCell v30 (⟨g5, 11, none⟩ : Addr) (.int .i64 r8)) (⟨g5, 12, none⟩ : Addr) (.int .i64 r9))) := (RS.set (RS.set (JP.out.call r kk) 11 (.int .i64 r8) ⟨d1, d2, tm, l, 4, ty, idd, fd, noS, 0, 0, r8, 0, []⟩ rfl rfl rfl) 12 (.int .i64 r9) ⟨d1, d2, tm, l, 4, ty, idd, fd, noS, 0, 0, r8, r9, []⟩ rfl rfl rfl)
        have K30 : Hid (Has (World.setCell (World.setCell v30 (⟨g5, 11, none⟩ : Addr) (.int .i64 r8)) (⟨g5, 12, none⟩ : Addr) (.int .i64 r9)) kp (pL 4) ∧ g5 < kp ∧ k ≠ kp) := ⟨(((KP.out.1.ko kk (fun e => KP.out.2.2 e.symm)).other (by have := KP.out.2.1; omega) _ _).other (by have := KP.out.2.1; omega) _ _), KP.out.2⟩
        have P30 := (show Has _ kp (pL 4) from KP.out.1.ko kk (fun e => KP.out.2.2 e.symm)).fiveP
        obtain ⟨t0, t1, t2, t3, t4⟩ := P30
        rw [c1] at t1
        rw [c2] at t2
        rw [c3] at t3
        rw [c4] at t4
        clear r kk HC p0 p1 p2 p3 p4
        go_upto_region 21 with fail
        generalize hW : (World.setCell (World.setCell v30 (⟨g5, 11, none⟩ : Addr) (.int .i64 r8)) (⟨g5, 12, none⟩ : Addr) (.int .i64 r9)) = x30 at J30 K30 ⊢
        clear hW cc11 ff11 cc12 ff12 JP KP t0 t1 t2 t3 t4
        obtain ⟨p0, p1, p2, p3, p4⟩ := (show Has _ kp (pL 4) from K30.out.1).fiveP
        rw [c1] at p1
        rw [c2] at p2
        rw [c3] at p3
        rw [c4] at p4
        go_wp2_with fail
        refine (C9 _ J30.out.rd).mono ?_
        rintro e v31 ⟨rfl, r, kk⟩
        have HC := (J30.out.call r kk).cur
        have cc8 := HC.at 8 rfl
        have ff8 := HC.free 8 rfl
        have J31 : Hid (RS w k g4 g5 s z9 ⟨d1, d2, tm, l, 4, ty, idd, fd, r10, 0, 0, r8, r9, []⟩ ⟨po, pc, none, 0⟩ (World.setCell v31 (⟨g5, 8, none⟩ : Addr) (.string r10))) := (RS.set (J30.out.call r kk) 8 (.string r10) ⟨d1, d2, tm, l, 4, ty, idd, fd, r10, 0, 0, r8, r9, []⟩ rfl rfl rfl)
        have K31 : Hid (Has (World.setCell v31 (⟨g5, 8, none⟩ : Addr) (.string r10)) kp (pL 4) ∧ g5 < kp ∧ k ≠ kp) := ⟨((K30.out.1.ko kk (fun e => K30.out.2.2 e.symm)).other (by have := K30.out.2.1; omega) _ _), K30.out.2⟩
        have P31 := (show Has _ kp (pL 4) from K30.out.1.ko kk (fun e => K30.out.2.2 e.symm)).fiveP
        obtain ⟨t0, t1, t2, t3, t4⟩ := P31
        rw [c1] at t1
        rw [c2] at t2
        rw [c3] at t3
        rw [c4] at t4
        clear r kk HC p0 p1 p2 p3 p4
        go_upto_region 22 with fail
        generalize hW : (World.setCell v31 (⟨g5, 8, none⟩ : Addr) (.string r10)) = x31 at J31 K31 ⊢
        clear hW cc8 ff8 J30 K30 t0 t1 t2 t3 t4
        obtain ⟨p0, p1, p2, p3, p4⟩ := (show Has _ kp (pL 4) from K31.out.1).fiveP
        rw [c1] at p1
        rw [c2] at p2
        rw [c3] at p3
        rw [c4] at p4
        obtain ⟨a0, a1, a2, a3, a4, a5, a6, a7, a8, a9, a10, a11, a12, a13⟩ := (show Has _ g5 (oL ⟨d1, d2, tm, l, 4, ty, idd, fd, r10, 0, 0, r8, r9, []⟩ ⟨po, pc, none, 0⟩) from J31.out.cur).f14
        obtain ⟨b0, b1, b2, b3, b4, b5, b6, b7, b8, b9, b10, b11, b12, b13⟩ := (show Has _ g4 zL from J31.out.res).f14
        obtain ⟨f0, f1, f2, f3, f4, f5, f6, f7, f8, f9, f10, f11, f12, f13⟩ := (show Has _ g4 zL from J31.out.res).f14f
        have hh4 := J31.out.h4
        have hh5 := J31.out.h45
        have HEND : Hid (Has (putO14 x31 g4 ⟨d1, d2, tm, l, 4, ty, idd, fd, r10, 0, 0, r8, r9, []⟩ ⟨po, pc, none, 0⟩) g4 (oL ⟨d1, d2, tm, l, 4, ty, idd, fd, r10, 0, 0, r8, r9, []⟩ ⟨po, pc, none, 0⟩) ∧ OOwn g4 (putO14 x31 g4 ⟨d1, d2, tm, l, 4, ty, idd, fd, r10, 0, 0, r8, r9, []⟩ ⟨po, pc, none, 0⟩) ⟨d1, d2, tm, l, 4, ty, idd, fd, r10, 0, 0, r8, r9, []⟩ ⟨po, pc, none, 0⟩ ∧ Rdr k s z9 (putO14 x31 g4 ⟨d1, d2, tm, l, 4, ty, idd, fd, r10, 0, 0, r8, r9, []⟩ ⟨po, pc, none, 0⟩) ∧ KO k w (putO14 x31 g4 ⟨d1, d2, tm, l, 4, ty, idd, fd, r10, 0, 0, r8, r9, []⟩ ⟨po, pc, none, 0⟩)) :=
          ⟨has_putO ⟨d1, d2, tm, l, 4, ty, idd, fd, r10, 0, 0, r8, r9, []⟩ ⟨po, pc, none, 0⟩ J31.out.res rfl, (OOwn.put (⟨J31.out.deps, J31.out.dots⟩ : OOwn (g5 + 1) _ ⟨d1, d2, tm, l, 4, ty, idd, fd, r10, 0, 0, r8, r9, []⟩ ⟨po, pc, none, 0⟩) (by omega)).mono (by omega), rdr_put14 J31.out.rd J31.out.k4 _ _, ko_put14 J31.out.ko hh4 _ _⟩
        have HO : Hid (rdO s.data.toList i = (⟨d1, d2, tm, l, 4, ty, idd, fd, r10, 0, 0, r8, r9, []⟩, z9)) := by
          show rdO s.data.toList i = _
          unfold rdO
          rw [HE.out]
          simp [rdTail, E8.out, E9.out]
        clear J31 hh4 hh5
        go_wp2
        rw [HO.out]
        dsimp only [putO14, put14, List.length_nil] at HEND
        generalize hW : World.setCell _ (⟨g4, 13, none⟩ : Addr) _ = w9 at HEND ⊢
        exact bodyPost_ret (ret_op rfl rfl HEND.out.1) rfl ⟨⟨po, pc, none, 0⟩, rfl, HEND.out.2⟩
      · have c1 : pNum 5 = false := rfl
        have c2 : pDot 5 = false := rfl
        have c3 : pRef 5 = true := rfl
        have c4 : pVal 5 = false := rfl
        rw [c1] at p1
        rw [c2] at p2
        rw [c3] at p3
        rw [c4] at p4
        have JP : Hid (RS w k g4 g5 s z7 ⟨d1, d2, tm, l, 5, ty, idd, fd, noS, 0, 0, 0, 0, []⟩ ⟨po, pc, none, 0⟩ x20) := HP.out.1
        have KP : Hid (Has x20 kp (pL 5) ∧ g5 < kp ∧ k ≠ kp) := HP.out.2
        clear HP
        obtain ⟨⟨r8, r9⟩, z8, h8⟩ : ∃ d z, rdD s.data.toList z7 = (d, z) := ⟨_, _, rfl⟩
        have E8 : Hid (rdD s.data.toList z7 = ((r8, r9), z8)) := h8
        have C8 := CD z7
        rw [h8] at C8
        simp only at C8
        clear h8
        go_upto_region 19 with fail
        go_wp2_with fail
        refine (C8 _ JP.out.rd).mono ?_
        rintro e v30 ⟨rfl, r, kk⟩
        have HC := (JP.out.call r kk).cur
        have cc11 := HC.at 11 rfl
        have ff11 := HC.free 11 rfl
        have cc12 := HC.at 12 rfl
        have ff12 := HC.free 12 rfl
        have J30 : Hid (RS w k g4 g5 s z8 ⟨d1, d2, tm, l, 5, ty, idd, fd, noS, 0, 0, r8, r9, []⟩ ⟨po, pc, none, 0⟩ (World.setCell (World.setCell v30 (⟨g5, 11, none⟩ : Addr) (.int .i64 r8)) (⟨g5, 12, none⟩ : Addr) (.int .i64 r9))) := (RS.set (RS.set (JP.out.call r kk) 11 (.int .i64 r8) ⟨d1, d2, tm, l, 5, ty, idd, fd, noS, 0, 0, r8, 0, []⟩ rfl rfl rfl) 12 (.int .i64 r9) ⟨d1, d2, tm, l, 5, ty, idd, fd, noS, 0, 0, r8, r9, []⟩ rfl rfl rfl)
        have K30 : Hid (Has (World.setCell (World.setCell v30 (⟨g5, 11, none⟩ : Addr) (.int .i64 r8)) (⟨g5, 12, none⟩ : Addr) (.int .i64 r9)) kp (pL 5) ∧ g5 < kp ∧ k ≠ kp) := ⟨(((KP.out.1.ko kk (fun e => KP.out.2.2 e.symm)).other (by have := KP.out.2.1; omega) _ _).other (by have := KP.out.2.1; omega) _ _), KP.out.2⟩
        have P30 := (show Has _ kp (pL 5) from KP.out.1.ko kk (fun e => KP.out.2.2 e.symm)).fiveP
        obtain ⟨t0, t1, t2, t3, t4⟩ := P30
        rw [c1] at t1
        rw [c2] at t2
        rw [c3] at t3
        rw [c4] at t4
        clear r kk HC p0 p1 p2 p3 p4
        go_upto_region 22 with fail
        generalize hW : (World.setCell (World.setCell v30 (⟨g5, 11, none⟩ : Addr) (.int .i64 r8)) (⟨g5, 12, none⟩ : Addr) (.int .i64 r9)) = x30 at J30 K30 ⊢
        clear hW cc11 ff11 cc12 ff12 JP KP t0 t1 t2 t3 t4
        obtain ⟨p0, p1, p2, p3, p4⟩ := (show Has _ kp (pL 5) from K30.out.1).fiveP
        rw [c1] at p1
        rw [c2] at p2
        rw [c3] at p3
        rw [c4] at p4
        obtain ⟨a0, a1, a2, a3, a4, a5, a6, a7, a8, a9, a10, a11, a12, a13⟩ := (show Has _ g5 (oL ⟨d1, d2, tm, l, 5, ty, idd, fd, noS, 0, 0, r8, r9, []⟩ ⟨po, pc, none, 0⟩) from J30.out.cur).f14
        obtain ⟨b0, b1, b2, b3, b4, b5, b6, b7, b8, b9, b10, b11, b12, b13⟩ := (show Has _ g4 zL from J30.out.res).f14
        obtain ⟨f0, f1, f2, f3, f4, f5, f6, f7, f8, f9, f10, f11, f12, f13⟩ := (show Has _ g4 zL from J30.out.res).f14f
        have hh4 := J30.out.h4
        have hh5 := J30.out.h45
        have HEND : Hid (Has (putO14 x30 g4 ⟨d1, d2, tm, l, 5, ty, idd, fd, noS, 0, 0, r8, r9, []⟩ ⟨po, pc, none, 0⟩) g4 (oL ⟨d1, d2, tm, l, 5, ty, idd, fd, noS, 0, 0, r8, r9, []⟩ ⟨po, pc, none, 0⟩) ∧ OOwn g4 (putO14 x30 g4 ⟨d1, d2, tm, l, 5, ty, idd, fd, noS, 0, 0, r8, r9, []⟩ ⟨po, pc, none, 0⟩) ⟨d1, d2, tm, l, 5, ty, idd, fd, noS, 0, 0, r8, r9, []⟩ ⟨po, pc, none, 0⟩ ∧ Rdr k s z8 (putO14 x30 g4 ⟨d1, d2, tm, l, 5, ty, idd, fd, noS, 0, 0, r8, r9, []⟩ ⟨po, pc, none, 0⟩) ∧ KO k w (putO14 x30 g4 ⟨d1, d2, tm, l, 5, ty, idd, fd, noS, 0, 0, r8, r9, []⟩ ⟨po, pc, none, 0⟩)) :=
          ⟨has_putO ⟨d1, d2, tm, l, 5, ty, idd, fd, noS, 0, 0, r8, r9, []⟩ ⟨po, pc, none, 0⟩ J30.out.res rfl, (OOwn.put (⟨J30.out.deps, J30.out.dots⟩ : OOwn (g5 + 1) _ ⟨d1, d2, tm, l, 5, ty, idd, fd, noS, 0, 0, r8, r9, []⟩ ⟨po, pc, none, 0⟩) (by omega)).mono (by omega), rdr_put14 J30.out.rd J30.out.k4 _ _, ko_put14 J30.out.ko hh4 _ _⟩
        have HO : Hid (rdO s.data.toList i = (⟨d1, d2, tm, l, 5, ty, idd, fd, noS, 0, 0, r8, r9, []⟩, z8)) := by
          show rdO s.data.toList i = _
          unfold rdO
          rw [HE.out]
          simp [rdTail, E8.out]
        clear J30 hh4 hh5
        go_wp2
        rw [HO.out]
        dsimp only [putO14, put14, List.length_nil] at HEND
        generalize hW : World.setCell _ (⟨g4, 13, none⟩ : Addr) _ = w9 at HEND ⊢
        exact bodyPost_ret (ret_op rfl rfl HEND.out.1) rfl ⟨⟨po, pc, none, 0⟩, rfl, HEND.out.2⟩
      · have c1 : pNum kd = false := by unfold pNum; simp; omega
        have c2 : pDot kd = false := by unfold pDot; simp; omega
        have c3 : pRef kd = false := by unfold pRef; simp; omega
        have c4 : pVal kd = false := by unfold pVal; simp; omega
        rw [c1] at p1
        rw [c2] at p2
        rw [c3] at p3
        rw [c4] at p4
        have JP : Hid (RS w k g4 g5 s z7 ⟨d1, d2, tm, l, kd, ty, idd, fd, noS, 0, 0, 0, 0, []⟩ ⟨po, pc, none, 0⟩ x20) := HP.out.1
        clear HP
        go_upto_region 22 with fail
        obtain ⟨a0, a1, a2, a3, a4, a5, a6, a7, a8, a9, a10, a11, a12, a13⟩ := (show Has _ g5 (oL ⟨d1, d2, tm, l, kd, ty, idd, fd, noS, 0, 0, 0, 0, []⟩ ⟨po, pc, none, 0⟩) from JP.out.cur).f14
        obtain ⟨b0, b1, b2, b3, b4, b5, b6, b7, b8, b9, b10, b11, b12, b13⟩ := (show Has _ g4 zL from JP.out.res).f14
        obtain ⟨f0, f1, f2, f3, f4, f5, f6, f7, f8, f9, f10, f11, f12, f13⟩ := (show Has _ g4 zL from JP.out.res).f14f
        have hh4 := JP.out.h4
        have hh5 := JP.out.h45
        have HEND : Hid (Has (putO14 x20 g4 ⟨d1, d2, tm, l, kd, ty, idd, fd, noS, 0, 0, 0, 0, []⟩ ⟨po, pc, none, 0⟩) g4 (oL ⟨d1, d2, tm, l, kd, ty, idd, fd, noS, 0, 0, 0, 0, []⟩ ⟨po, pc, none, 0⟩) ∧ OOwn g4 (putO14 x20 g4 ⟨d1, d2, tm, l, kd, ty, idd, fd, noS, 0, 0, 0, 0, []⟩ ⟨po, pc, none, 0⟩) ⟨d1, d2, tm, l, kd, ty, idd, fd, noS, 0, 0, 0, 0, []⟩ ⟨po, pc, none, 0⟩ ∧ Rdr k s z7 (putO14 x20 g4 ⟨d1, d2, tm, l, kd, ty, idd, fd, noS, 0, 0, 0, 0, []⟩ ⟨po, pc, none, 0⟩) ∧ KO k w (putO14 x20 g4 ⟨d1, d2, tm, l, kd, ty, idd, fd, noS, 0, 0, 0, 0, []⟩ ⟨po, pc, none, 0⟩)) :=
          ⟨has_putO ⟨d1, d2, tm, l, kd, ty, idd, fd, noS, 0, 0, 0, 0, []⟩ ⟨po, pc, none, 0⟩ JP.out.res rfl, (OOwn.put (⟨JP.out.deps, JP.out.dots⟩ : OOwn (g5 + 1) _ ⟨d1, d2, tm, l, kd, ty, idd, fd, noS, 0, 0, 0, 0, []⟩ ⟨po, pc, none, 0⟩) (by omega)).mono (by omega), rdr_put14 JP.out.rd JP.out.k4 _ _, ko_put14 JP.out.ko hh4 _ _⟩
        have HO : Hid (rdO s.data.toList i = (⟨d1, d2, tm, l, kd, ty, idd, fd, noS, 0, 0, 0, 0, []⟩, z7)) := by
          show rdO s.data.toList i = _
          unfold rdO
          rw [HE.out]
          simp only [rdTail]
          rw [if_neg (by omega), if_neg (by omega), if_neg (by omega), if_neg (by omega), if_neg (by omega)]
        clear JP hh4 hh5
        go_wp2
        rw [HO.out]
        dsimp only [putO14, put14, List.length_nil] at HEND
        generalize hW : World.setCell _ (⟨g4, 13, none⟩ : Addr) _ = w9 at HEND ⊢
        exact bodyPost_ret (ret_op rfl rfl HEND.out.1) rfl ⟨⟨po, pc, none, 0⟩, rfl, HEND.out.2⟩

end Go.Proofs.Ytjfgccjdkflfoaa

