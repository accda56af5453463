/-
  The walk of the law OpBack: what Put tells Get reads again; cut bytes are none; bytes that are taken are written again.
-/
import Derived.Test.YtjfgccjdkflfoaaZOpsWalk
import Derived.Test.YtjfgccjdkflfoaaZPack1
namespace Go.Proofs.Ytjfgccjdkflfoaa.OpBack
open Go.RowKit
open Ops (down newer siz_get)
set_option linter.unusedVariables false
set_option linter.unusedSimpArgs false

theorem ba_empty (A : ByteArray) : A.toList.isEmpty = decide (A.size = 0) := (valZ_eq ⟨0, 0, 0, [], 0, noS, noS, noS, A, 0, 0, 0, 0, []⟩).symm
theorem flatD_le : ∀ (l : List D2), (l.flatMap pD).length ≤ 18 * l.length
  | [] => by simp
  | d :: l => by
    have := flatD_le l
    have := pD_len d
    simp only [List.flatMap_cons, List.length_append, List.length_cons]
    omega
theorem putO_len {o : O14} (F : FitO o) : (putO o).length ≤ 4000 := by
  have h1 := headO_len F
  have h2 := F.value
  have h3 := F.dots.1
  have h4 := flatD_le o.dots
  have h5 := pI_len (foldI o.re)
  have h6 := pI_len (foldI o.im)
  have h7 := pI_len o.dots.length
  have h8 := pI_len o.rn
  have h9 := pI_len o.rs
  have h10 := pT_len o.value
  unfold putO
  rw [List.length_append]
  have : (tailO o).length ≤ 3000 := by
    unfold tailO
    split
    · rw [List.length_append]; omega
    · split
      · rw [List.length_append]; omega
      · split
        · rw [List.length_append, List.length_append]; omega
        · split
          · rw [List.length_append]; omega
          · omega
  omega

/-- The bytes of an operation that may be: what the law asks of them. -/
theorem back_yes {o : O14} {n : Int} (hm : mayO o n = true) (cut : Int) : ∃ (A : ByteArray) (k : Nat), putA o n = A ∧ putE o n = 0 ∧ 1 ≤ A.size ∧ A.size ≤ 4000 ∧ k < A.size ∧ wrap64 ((IntKind.u64.wrap cut).tmod (A.size : Int)) = (k : Int) ∧
    (getO A.data.toList n = o ∧ getE A.data.toList n = 0) ∧ (getO (A.extract 0 k).data.toList n = o0 ∧ getE (A.extract 0 k).data.toList n = 1100) ∧ (A.extract 0 k).size ≤ maxLen := by
  have hl := putO_len (fit_of hm)
  have hne := List.length_pos_iff.2 (putO_ne o)
  have hs : (tx (putO o)).size = (putO o).length := tx_len _
  obtain ⟨k, hk, ek⟩ := mod_any cut (tx (putO o)).size (by omega) (by omega)
  refine ⟨tx (putO o), k, ?_, ?_, by omega, by omega, hk, ek, ?_, ?_, ?_⟩
  · unfold putA; rw [hm]; rfl
  · unfold putE; rw [hm]; rfl
  · have h := put_ok hm
    have e : (tx (putO o)).data.toList = putO o := by simp [tx]
    unfold getO getE
    rw [e, h.1]
    exact ⟨h.2, rfl⟩
  · have e : ((tx (putO o)).extract 0 k).data.toList = (putO o).take k := by simp [tx, ByteArray.data_extract]
    have h := put_cut hm (k := k) (by omega)
    unfold getO getE
    rw [e, h]
    exact ⟨rfl, rfl⟩
  · rw [ByteArray.size_extract]; unfold maxLen; omega
theorem again_yes {s : ByteArray} {n : Int} (h : okG s.data.toList n = true) : getE s.data.toList n = 0 ∧ putA (getO s.data.toList n) n = s ∧ putE (getO s.data.toList n) n = 0 := by
  have K := ok_put h
  unfold getE getO
  rw [h]
  refine ⟨rfl, ?_, ?_⟩
  · rw [if_pos rfl]
    unfold putA
    rw [K.1, if_pos rfl, K.2]
  · rw [if_pos rfl]
    unfold putE
    rw [K.1]
    rfl
theorem again_no {s : ByteArray} {n : Int} (h : okG s.data.toList n = false) : getE s.data.toList n = 1100 ∧ getO s.data.toList n = o0 := by
  unfold getE getO
  rw [h]
  exact ⟨rfl, rfl⟩

set_option maxHeartbeats 8000000 in
set_option maxRecDepth 100000 in
theorem core (o : O14) (q : Pq) (s : ByteArray) (n cut : Int) (w : World) (hr : ORow w o q) (hz : Siz o) (hs : s.size ≤ maxLen) :
    Calls Try.prog 4 #[oV o q, .string s, .int .i64 n, .int .i64 cut] w fun e w' => e = .returned (.bool true) ∧ Below w.heap.size w w' := by
  obtain ⟨h, hh⟩ : ∃ h, w.heap.size = h := ⟨_, rfl⟩
  obtain ⟨po, pc, qo, qc⟩ := q
  have HS : Hid (Siz o ∧ s.size ≤ maxLen) := ⟨hz, hs⟩
  have H0 : Hid (Ops.Box (w.alloc (.cells (oL o ⟨po, pc, qo, qc⟩).toArray 29)) h o ⟨po, pc, qo, qc⟩ ∧ Below h w (w.alloc (.cells (oL o ⟨po, pc, qo, qc⟩).toArray 29)) ∧ h ≤ (w.alloc (.cells (oL o ⟨po, pc, qo, qc⟩).toArray 29)).heap.size) := ⟨Ops.box_new hh hr _, hh ▸ newer w _, by simp; omega⟩
  rw [hh]
  clear hr hz hs
  go_enter Try.func4, Try.ntmps4
  go_upto_region 1 with fail
  generalize hE : w.alloc (.cells (oL o ⟨po, pc, qo, qc⟩).toArray 29) = w0 at H0 ⊢
  clear hE
  try simp only [hh]
  clear hh
  go_wp2_with fail
  refine (awake11_any w0).mono ?_
  rintro e w1 ⟨rfl, b1⟩
  have H1 : Hid (Ops.Box w1 h o ⟨po, pc, qo, qc⟩ ∧ Below h w w1 ∧ h ≤ w1.heap.size) := ⟨H0.out.1.later b1, down h H0.out.2 b1⟩
  clear b1 H0
  go_upto_region 3 with fail
  have la := ld_op (show Has w1 h (oL o ⟨po, pc, qo, qc⟩) from H1.out.1.1)
  have CP := oput_any o ⟨po, pc, qo, qc⟩ n w1 H1.out.1.2 HS.out.1
  cases hm : mayO o n with
  | false =>
    have e1 : putA o n = noS := by unfold putA; rw [hm]; rfl
    have e2 : putE o n = 1100 := by unfold putE; rw [hm]; rfl
    rw [e1, e2] at CP
    clear e1 e2
    go_wp2_with (refine wpList_ld la rfl rfl rfl ?_)
    refine CP.mono ?_
    rintro e w2 ⟨rfl, b2⟩
    have H2 : Hid (Ops.Box w2 h o ⟨po, pc, qo, qc⟩ ∧ Below h w w2 ∧ h ≤ w2.heap.size) := ⟨H1.out.1.later b2, down h H1.out.2 b2⟩
    clear b2 H1 la CP
    go_upto_region 4 with fail
    obtain ⟨k4, hk4⟩ : ∃ k, w2.heap.size = k := ⟨_, rfl⟩
    have HK4 : Hid (w2.heap.size = k4) := hk4
    have hl4 : h < k4 := by rw [← hk4]; exact H2.out.1.1.1
    have C4 : ∀ r : MW k4 w2, Calls Try.prog 16 #[oV o ⟨po, pc, qo, qc⟩, .int .i64 n] r.w fun e w' => e = .returned (.bool false) ∧ Below r.w.heap.size r.w w' := fun r => by
      have := omay_any o ⟨po, pc, qo, qc⟩ n r.w (H2.out.1.later (HK4.out.symm ▸ r.h.1)).2 HS.out.1
      rw [hm] at this
      exact this
    have la := ld_mild (show Has w2 h (oL o ⟨po, pc, qo, qc⟩) from H2.out.1.1) hl4
    have hne : Nonempty (MW k4 w2) := MW.some hk4
    refine wp_region_mild hk4 (by kernel_rfl) (by kernel_rfl) ?_
    try dsimp only [List.append]
    repeat (first | (refine wpQuiet_ld la rfl rfl rfl ?_; (try simp only [Act.put, List.setIfInBounds_toArray, List.set_cons_zero, List.set_cons_succ])) | go_big_quiet_step (first
      | (go_at_call 13; refine (num_any _ _).mono ?_; rintro e v3 ⟨rfl, hv3⟩; exact ⟨rfl, MW.same _ hv3⟩)
      | (go_at_call 16; refine (C4 _).mono ?_; rintro e v3 ⟨rfl, b⟩; exact ⟨rfl, MW.later _ b⟩)))
    refine wpQuiet_nil ?_
    intro _ hw'
    obtain ⟨rq, rfl⟩ := hw'
    have H4 : Hid (Ops.Box rq.w h o ⟨po, pc, qo, qc⟩ ∧ Below h w rq.w ∧ h ≤ rq.w.heap.size) := ⟨H2.out.1.later (HK4.out.symm ▸ rq.h.1), down h H2.out.2 (HK4.out.symm ▸ rq.h.1)⟩
    obtain ⟨w4, hw4⟩ : ∃ w4, rq.w = w4 := ⟨_, rfl⟩
    rw [hw4] at H4 ⊢
    clear hw4 la C4 hne hl4 HK4 hk4 H2 hm
    clear rq
    go_upto_region 11 with (first | (go_at_call 13; refine (num_any _ _).mono ?_; rintro e v0 ⟨rfl, hw0⟩; have hw1 := hw0.symm; clear hw0; subst hw1) | fail)
    cases hg : okG s.data.toList n with
    | false =>
      have C := oget_any s n w4 HS.out.2
      rw [(again_no hg).1, (again_no hg).2] at C
      clear hg
      go_wp2_with fail
      refine C.mono ?_
      rintro e w8 ⟨⟨xo, xc, yo, yc⟩, rfl, own8, b8⟩
      obtain ⟨g8, hg8⟩ : ∃ g, w8.heap.size = g := ⟨_, rfl⟩
      have H8 : Hid (Has (w8.alloc (.cells (oL o0 ⟨xo, xc, yo, yc⟩).toArray 29)) g8 (oL o0 ⟨xo, xc, yo, yc⟩) ∧ Below h w (w8.alloc (.cells (oL o0 ⟨xo, xc, yo, yc⟩).toArray 29))) := ⟨hg8 ▸ has_new w8 _ _, (down h (down h H4.out.2 b8) (newer _ _)).1⟩
      clear own8 b8 H4 C
      go_upto_region 12 with fail
      generalize hE : w8.alloc (.cells (oL o0 ⟨xo, xc, yo, yc⟩).toArray 29) = w9 at H8 ⊢
      clear hE
      try simp only [hg8]
      clear hg8
      have t2 := H8.out.1.at 2 rfl
      have t3 := H8.out.1.at 3 rfl
      go_wp2_with (first | (go_at_call 13; refine (num_any _ _).mono ?_; rintro e v0 ⟨rfl, hw0⟩; have hw1 := hw0.symm; clear hw0; subst hw1) | fail)
      go_ret
      exact ⟨rfl, H8.out.2⟩
    | true =>
      have C := oget_any s n w4 HS.out.2
      obtain ⟨c, hc⟩ : ∃ c, getO s.data.toList n = c := ⟨_, rfl⟩
      have HC : Hid (Siz c) := hc ▸ siz_get _ _
      have G := again_yes hg
      rw [hc] at C G
      rw [G.1] at C
      have HG2 : Hid (putA c n = s ∧ putE c n = 0) := G.2
      clear hg hc G
      go_wp2_with fail
      refine C.mono ?_
      rintro e w8 ⟨⟨xo, xc, yo, yc⟩, rfl, own8, b8⟩
      obtain ⟨g8, hg8⟩ : ∃ g, w8.heap.size = g := ⟨_, rfl⟩
      have H8 : Hid (Ops.Box (w8.alloc (.cells (oL c ⟨xo, xc, yo, yc⟩).toArray 29)) g8 c ⟨xo, xc, yo, yc⟩ ∧ Below h w (w8.alloc (.cells (oL c ⟨xo, xc, yo, yc⟩).toArray 29)) ∧ h ≤ (w8.alloc (.cells (oL c ⟨xo, xc, yo, yc⟩).toArray 29)).heap.size) := ⟨Ops.box_new hg8 own8.row _, down h (down h H4.out.2 b8) (newer _ _)⟩
      clear own8 b8 H4 C
      go_upto_region 12 with fail
      generalize hE : w8.alloc (.cells (oL c ⟨xo, xc, yo, yc⟩).toArray 29) = w9 at H8 ⊢
      clear hE
      try simp only [hg8]
      clear hg8
      have CP2 := oput_any c ⟨xo, xc, yo, yc⟩ n w9 H8.out.1.2 HC.out
      rw [HG2.out.1, HG2.out.2] at CP2
      have la := ld_op (show Has w9 g8 (oL c ⟨xo, xc, yo, yc⟩) from H8.out.1.1)
      go_wp2_with (first | refine wpList_ld la rfl rfl rfl ?_ | (go_at_call 13; refine (num_any _ _).mono ?_; rintro e v0 ⟨rfl, hw0⟩; have hw1 := hw0.symm; clear hw0; subst hw1) | fail)
      refine CP2.mono ?_
      rintro e w10 ⟨rfl, b10⟩
      have HX : Hid (Below h w w10) := (down h H8.out.2 b10).1
      clear b10 H8 CP2 la
      go_wp2_with (first | (go_at_call 13; refine (num_any _ _).mono ?_; rintro e v0 ⟨rfl, hw0⟩; have hw1 := hw0.symm; clear hw0; subst hw1) | fail)
      go_ret
      exact ⟨rfl, HX.out⟩
  | true =>
    obtain ⟨A, k, e1, e2, hA0, hA1, hk, ek, hg, hx, hxs⟩ := back_yes hm cut
    have HG : Hid ((getO A.data.toList n = o ∧ getE A.data.toList n = 0) ∧ (getO (A.extract 0 k).data.toList n = o0 ∧ getE (A.extract 0 k).data.toList n = 1100) ∧ (A.extract 0 k).size ≤ maxLen) := ⟨hg, hx, hxs⟩
    rw [e1, e2] at CP
    have hAe : A.toList.isEmpty = false := by rw [ba_empty]; exact decide_eq_false (by omega)
    clear e1 e2 hg hx hxs
    go_wp2_with (refine wpList_ld la rfl rfl rfl ?_)
    refine CP.mono ?_
    rintro e w2 ⟨rfl, b2⟩
    have H2 : Hid (Ops.Box w2 h o ⟨po, pc, qo, qc⟩ ∧ Below h w w2 ∧ h ≤ w2.heap.size) := ⟨H1.out.1.later b2, down h H1.out.2 b2⟩
    clear b2 H1 la CP
    go_upto_region 4 with fail
    obtain ⟨k4, hk4⟩ : ∃ k, w2.heap.size = k := ⟨_, rfl⟩
    have HK4 : Hid (w2.heap.size = k4) := hk4
    have hl4 : h < k4 := by rw [← hk4]; exact H2.out.1.1.1
    have C4 : ∀ r : MW k4 w2, Calls Try.prog 16 #[oV o ⟨po, pc, qo, qc⟩, .int .i64 n] r.w fun e w' => e = .returned (.bool true) ∧ Below r.w.heap.size r.w w' := fun r => by
      have := omay_any o ⟨po, pc, qo, qc⟩ n r.w (H2.out.1.later (HK4.out.symm ▸ r.h.1)).2 HS.out.1
      rw [hm] at this
      exact this
    have la := ld_mild (show Has w2 h (oL o ⟨po, pc, qo, qc⟩) from H2.out.1.1) hl4
    have hne : Nonempty (MW k4 w2) := MW.some hk4
    refine wp_region_mild hk4 (by kernel_rfl) (by kernel_rfl) ?_
    try dsimp only [List.append]
    repeat (first | (refine wpQuiet_ld la rfl rfl rfl ?_; (try simp only [Act.put, List.setIfInBounds_toArray, List.set_cons_zero, List.set_cons_succ])) | go_big_quiet_step (first
      | (go_at_call 13; refine (num_any _ _).mono ?_; rintro e v3 ⟨rfl, hv3⟩; exact ⟨rfl, MW.same _ hv3⟩)
      | (go_at_call 16; refine (C4 _).mono ?_; rintro e v3 ⟨rfl, b⟩; exact ⟨rfl, MW.later _ b⟩)))
    refine wpQuiet_nil ?_
    intro _ hw'
    obtain ⟨rq, rfl⟩ := hw'
    have H4 : Hid (Ops.Box rq.w h o ⟨po, pc, qo, qc⟩ ∧ Below h w rq.w ∧ h ≤ rq.w.heap.size) := ⟨H2.out.1.later (HK4.out.symm ▸ rq.h.1), down h H2.out.2 (HK4.out.symm ▸ rq.h.1)⟩
    obtain ⟨w4, hw4⟩ : ∃ w4, rq.w = w4 := ⟨_, rfl⟩
    rw [hw4] at H4 ⊢
    clear hw4 la C4 hne hl4 HK4 hk4 H2 hm
    clear rq
    go_upto_region 7 with (first | (go_at_call 13; refine (num_any _ _).mono ?_; rintro e v0 ⟨rfl, hw0⟩; have hw1 := hw0.symm; clear hw0; subst hw1) | fail)
    have CG := oget_any A n w4 (by unfold maxLen; omega)
    rw [HG.out.1.1, HG.out.1.2] at CG
    go_wp2_with fail
    refine CG.mono ?_
    rintro e w5 ⟨⟨bo, bc, do', dc⟩, rfl, own5, b5⟩
    obtain ⟨g5, hg5⟩ : ∃ g, w5.heap.size = g := ⟨_, rfl⟩
    have H5 : Hid (Ops.Box (w5.alloc (.cells (oL o ⟨bo, bc, do', dc⟩).toArray 29)) g5 o ⟨bo, bc, do', dc⟩ ∧ Ops.Box (w5.alloc (.cells (oL o ⟨bo, bc, do', dc⟩).toArray 29)) h o ⟨po, pc, qo, qc⟩ ∧ Below h w (w5.alloc (.cells (oL o ⟨bo, bc, do', dc⟩).toArray 29)) ∧ h ≤ (w5.alloc (.cells (oL o ⟨bo, bc, do', dc⟩).toArray 29)).heap.size) :=
      ⟨Ops.box_new hg5 own5.row _, (H4.out.1.later b5).later (newer _ _), down h (down h H4.out.2 b5) (newer _ _)⟩
    clear own5 b5 H4 CG
    go_upto_region 8 with fail
    generalize hE : w5.alloc (.cells (oL o ⟨bo, bc, do', dc⟩).toArray 29) = w6 at H5 ⊢
    clear hE
    try simp only [hg5]
    clear hg5
    have CX := oget_any (A.extract 0 k) n w6 HG.out.2.2
    rw [HG.out.2.1.1, HG.out.2.1.2] at CX
    go_wp2_with fail
    refine CX.mono ?_
    rintro e w7 ⟨⟨eo, ec, fo, fc⟩, rfl, own7, b7⟩
    have H7 : Hid (Ops.Box (w7.alloc (.cells (oL o0 ⟨eo, ec, fo, fc⟩).toArray 29)) g5 o ⟨bo, bc, do', dc⟩ ∧ Ops.Box (w7.alloc (.cells (oL o0 ⟨eo, ec, fo, fc⟩).toArray 29)) h o ⟨po, pc, qo, qc⟩ ∧ Below h w (w7.alloc (.cells (oL o0 ⟨eo, ec, fo, fc⟩).toArray 29)) ∧ h ≤ (w7.alloc (.cells (oL o0 ⟨eo, ec, fo, fc⟩).toArray 29)).heap.size) :=
      ⟨(H5.out.1.later b7).later (newer _ _), (H5.out.2.1.later b7).later (newer _ _), down h (down h H5.out.2.2 b7) (newer _ _)⟩
    clear own7 b7 H5 CX
    go_upto_region 9 with fail
    generalize hE : w7.alloc (.cells (oL o0 ⟨eo, ec, fo, fc⟩).toArray 29) = w9 at H7 ⊢
    clear hE
    have la := ld_op (show Has w9 g5 (oL o ⟨bo, bc, do', dc⟩) from H7.out.1.1)
    have lm := ld_op (show Has w9 h (oL o ⟨po, pc, qo, qc⟩) from H7.out.2.1.1)
    go_wp2_with (first | refine wpList_ld la rfl rfl rfl ?_ | refine wpList_ld lm rfl rfl rfl ?_ | (go_at_call 13; refine (num_any _ _).mono ?_; rintro e v0 ⟨rfl, hw0⟩; have hw1 := hw0.symm; clear hw0; subst hw1) | fail)
    refine (sameOp_any o ⟨bo, bc, do', dc⟩ ⟨po, pc, qo, qc⟩ _ H7.out.1.2 H7.out.2.1.2 HS.out.1).mono ?_
    rintro e w11 ⟨rfl, b11⟩
    have H11 : Hid (Below h w w11 ∧ h ≤ w11.heap.size) := down h H7.out.2.2 b11
    clear b11 H7 la lm
    go_upto_region 11 with (first | (go_at_call 13; refine (num_any _ _).mono ?_; rintro e v0 ⟨rfl, hw0⟩; have hw1 := hw0.symm; clear hw0; subst hw1) | fail)
    cases hg : okG s.data.toList n with
    | false =>
      have C := oget_any s n w11 HS.out.2
      rw [(again_no hg).1, (again_no hg).2] at C
      clear hg
      go_wp2_with fail
      refine C.mono ?_
      rintro e x8 ⟨⟨xo, xc, yo, yc⟩, rfl, own8, b8⟩
      obtain ⟨y8, hy8⟩ : ∃ g, x8.heap.size = g := ⟨_, rfl⟩
      have H8 : Hid (Has (x8.alloc (.cells (oL o0 ⟨xo, xc, yo, yc⟩).toArray 29)) y8 (oL o0 ⟨xo, xc, yo, yc⟩) ∧ Below h w (x8.alloc (.cells (oL o0 ⟨xo, xc, yo, yc⟩).toArray 29))) := ⟨hy8 ▸ has_new x8 _ _, (down h (down h H11.out b8) (newer _ _)).1⟩
      clear own8 b8 H11 C
      go_upto_region 12 with fail
      generalize hE : x8.alloc (.cells (oL o0 ⟨xo, xc, yo, yc⟩).toArray 29) = x9 at H8 ⊢
      clear hE
      try simp only [hy8]
      clear hy8
      have t2 := H8.out.1.at 2 rfl
      have t3 := H8.out.1.at 3 rfl
      go_wp2_with (first | (go_at_call 13; refine (num_any _ _).mono ?_; rintro e v0 ⟨rfl, hw0⟩; have hw1 := hw0.symm; clear hw0; subst hw1) | fail)
      go_ret
      exact ⟨rfl, H8.out.2⟩
    | true =>
      have C := oget_any s n w11 HS.out.2
      obtain ⟨c, hc⟩ : ∃ c, getO s.data.toList n = c := ⟨_, rfl⟩
      have HC : Hid (Siz c) := hc ▸ siz_get _ _
      have G := again_yes hg
      rw [hc] at C G
      rw [G.1] at C
      have HG2 : Hid (putA c n = s ∧ putE c n = 0) := G.2
      clear hg hc G
      go_wp2_with fail
      refine C.mono ?_
      rintro e x8 ⟨⟨xo, xc, yo, yc⟩, rfl, own8, b8⟩
      obtain ⟨y8, hy8⟩ : ∃ g, x8.heap.size = g := ⟨_, rfl⟩
      have H8 : Hid (Ops.Box (x8.alloc (.cells (oL c ⟨xo, xc, yo, yc⟩).toArray 29)) y8 c ⟨xo, xc, yo, yc⟩ ∧ Below h w (x8.alloc (.cells (oL c ⟨xo, xc, yo, yc⟩).toArray 29)) ∧ h ≤ (x8.alloc (.cells (oL c ⟨xo, xc, yo, yc⟩).toArray 29)).heap.size) := ⟨Ops.box_new hy8 own8.row _, down h (down h H11.out b8) (newer _ _)⟩
      clear own8 b8 H11 C
      go_upto_region 12 with fail
      generalize hE : x8.alloc (.cells (oL c ⟨xo, xc, yo, yc⟩).toArray 29) = x9 at H8 ⊢
      clear hE
      try simp only [hy8]
      clear hy8
      have CP2 := oput_any c ⟨xo, xc, yo, yc⟩ n x9 H8.out.1.2 HC.out
      rw [HG2.out.1, HG2.out.2] at CP2
      have la := ld_op (show Has x9 y8 (oL c ⟨xo, xc, yo, yc⟩) from H8.out.1.1)
      go_wp2_with (first | refine wpList_ld la rfl rfl rfl ?_ | (go_at_call 13; refine (num_any _ _).mono ?_; rintro e v0 ⟨rfl, hw0⟩; have hw1 := hw0.symm; clear hw0; subst hw1) | fail)
      refine CP2.mono ?_
      rintro e x10 ⟨rfl, b10⟩
      have HX : Hid (Below h w x10) := (down h H8.out.2 b10).1
      clear b10 H8 CP2 la
      go_wp2_with (first | (go_at_call 13; refine (num_any _ _).mono ?_; rintro e v0 ⟨rfl, hw0⟩; have hw1 := hw0.symm; clear hw0; subst hw1) | fail)
      go_ret
      exact ⟨rfl, HX.out⟩

set_option maxRecDepth 100000 in
theorem walk {H : Type} {enc : TypeId × Value → H} {base : Nat} {d0 : DataW H} {p0 : List MemPlace} (v0 : Value) (s : ByteArray) (n cut : Int) (w : World)
    (o0 : Value.okWide Try.prog w .any base 29 v0) (h0 : DataW.Trod enc Try.prog w 0 (fun _ => true) true 29 v0 d0 p0) (z0 : ∀ n, n ∈ DataW.weights Try.prog 29 d0 → n ≤ reachBytes)
    (hs : s.size ≤ maxLen) (_ : (Lit.int .i64 n).wf = true) (_ : (Lit.int .i64 cut).wf = true) :
    Calls Try.prog 4 #[v0, .string s, .int .i64 n, .int .i64 cut] w fun e w' => e = .returned (.bool true) ∧ Below w.heap.size w w' := by
  obtain ⟨o, q, hv, hr, hz⟩ := open_op o0 h0 z0
  rw [hv]
  exact core o q s n cut w hr hz hs

end Go.Proofs.Ytjfgccjdkflfoaa.OpBack

