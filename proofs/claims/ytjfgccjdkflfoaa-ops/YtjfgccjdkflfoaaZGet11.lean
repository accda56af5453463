/-
  Package op's Get, by contract.
-/
import Derived.Test.YtjfgccjdkflfoaaZReadOp11
import Derived.Test.YtjfgccjdkflfoaaZOpMay11
namespace Go.Proofs.Ytjfgccjdkflfoaa
open Go.RowKit
set_option linter.unusedVariables false
set_option linter.unusedSimpArgs false

/-- What Get answers. -/
def getO (s : List UInt8) (n : Int) : O14 := if okG s n then (rdO s n.toNat).1 else o0
def getE (s : List UInt8) (n : Int) : Int := if okG s n then 0 else 1100

theorem rdT_size (s : List UInt8) (z : Option Nat) : (rdT s z).1.size ≤ 65536 := by
  cases h : (rdT s z).2 with
  | some t =>
    obtain ⟨_, _, h2, _⟩ := rdT_seg (pr_of h)
    exact h2
  | none =>
    cases z with
    | none => exact Nat.zero_le _
    | some a =>
      unfold rdT at h ⊢
      simp only at h ⊢
      by_cases h0 : (Vi.getText s a).2.2 = 0
      · rw [if_pos h0] at h; simp at h
      · rw [if_neg h0]; exact Nat.zero_le _
theorem siz_rd (s : List UInt8) (n : Nat) (hn : n ≤ 16) : Siz (rdO s n).1 := by
  have h1 := rdL_len s n (rdN s (rdD s (some 0)).2).2
  have hh : Siz (rdHead s n).1 := by
    unfold rdHead
    refine ⟨?_, by simp, ?_, ?_, ?_, by simp [ByteArray.size]⟩
    · simp only; rw [h1]; omega
    · exact Nat.le_trans (rdT_size _ _) (by decide)
    · exact Nat.le_trans (rdT_size _ _) (by decide)
    · exact Nat.le_trans (rdT_size _ _) (by decide)
  unfold rdO rdTail
  have hv : ∀ z, (rdT s z).1.size ≤ 140737488351232 := fun z => Nat.le_trans (rdT_size _ _) (by decide)
  split
  · exact ⟨hh.deps, hh.dots, hh.type, hh.id, hh.field, hh.value⟩
  · split
    · split
      · exact hh
      · rename_i h64
        refine ⟨hh.deps, ?_, hh.type, hh.id, hh.field, hh.value⟩
        simp only
        rw [rdM_len]
        omega
    · split
      · exact ⟨hh.deps, hh.dots, hh.type, hh.id, hh.field, hv _⟩
      · split
        · exact ⟨hh.deps, hh.dots, hh.type, hh.id, hh.field, hh.value⟩
        · split
          · exact ⟨hh.deps, hh.dots, hh.type, hh.id, hh.field, hv _⟩
          · exact hh

theorem below_put14 {B : Nat} {a w : World} (h : Below B a w) {g : Nat} (hg : B ≤ g) (o : O14) (q : Pq) : Below B a (putO14 w g o q) :=
  ((((((((((((((h.setCell (p := ⟨g, 0, none⟩) hg _).setCell (p := ⟨g, 1, none⟩) hg _).setCell (p := ⟨g, 2, none⟩) hg _).setCell (p := ⟨g, 3, none⟩) hg _).setCell (p := ⟨g, 4, none⟩) hg _).setCell (p := ⟨g, 5, none⟩) hg _).setCell (p := ⟨g, 6, none⟩) hg _).setCell (p := ⟨g, 7, none⟩) hg _).setCell (p := ⟨g, 8, none⟩) hg _).setCell (p := ⟨g, 9, none⟩) hg _).setCell (p := ⟨g, 10, none⟩) hg _).setCell (p := ⟨g, 11, none⟩) hg _).setCell (p := ⟨g, 12, none⟩) hg _).setCell (p := ⟨g, 13, none⟩) hg _)

/-- What Get keeps of its answer's place. -/
theorem zero_put {w W : World} {g B : Nat} (h : Has W g zL) (hb : Below B w W) (hB : B ≤ g) : Has (putO14 W g o0 pq0) g zL ∧ OOwn B (putO14 W g o0 pq0) o0 pq0 ∧ Below B w (putO14 W g o0 pq0) :=
  ⟨has_putO o0 pq0 h rfl, ⟨own_nil _ _ _ _, own_nil _ _ _ _⟩, below_put14 hb hB _ _⟩

set_option maxHeartbeats 4000000 in
set_option maxRecDepth 100000 in
/-- Get, of no number of nodes that may be. -/
theorem oget_bad (s : ByteArray) (n : Int) (w : World) (hn : ¬ (1 ≤ n ∧ n ≤ 16)) :
    Calls Try.prog 11 #[.string s, .int .i64 n] w fun e w' => ∃ q, e = .returned (.tuple #[oV o0 q, .int .i64 1100]) ∧ OOwn w.heap.size w' o0 q ∧ Below w.heap.size w w' := by
  obtain ⟨g, hg⟩ : ∃ g, w.heap.size = g := ⟨_, rfl⟩
  have hal : Below w.heap.size w (w.alloc (.cells zL.toArray 29)) := (Below.refl _ _).alloc (Nat.le_refl _) _
  have H0 : Hid (Has (w.alloc (.cells zL.toArray 29)) g zL ∧ Below g w (w.alloc (.cells zL.toArray 29))) := ⟨hg ▸ has_new w zL _, hg ▸ hal⟩
  rw [hg]
  clear hal
  by_cases h1 : n < 1
  · go_enter Try.func11, Try.ntmps11
    go_upto_region 1 with fail
    generalize hW : w.alloc (.cells zL.toArray 29) = w1 at H0 ⊢
    clear hW hg
    obtain ⟨b0, b1, b2, b3, b4, b5, b6, b7, b8, b9, b10, b11, b12, b13⟩ := (show Has w1 g zL from H0.out.1).f14
    obtain ⟨f0, f1, f2, f3, f4, f5, f6, f7, f8, f9, f10, f11, f12, f13⟩ := (show Has w1 g zL from H0.out.1).f14f
    have HEND : Hid (Has (putO14 w1 g o0 pq0) g zL ∧ OOwn g (putO14 w1 g o0 pq0) o0 pq0 ∧ Below g w (putO14 w1 g o0 pq0)) := zero_put H0.out.1 H0.out.2 (Nat.le_refl _)
    go_wp2
    dsimp only [putO14, put14, List.length_nil, o0, pq0] at HEND
    generalize hW : World.setCell _ (⟨g, 13, none⟩ : Addr) _ = w9 at HEND ⊢
    exact bodyPost_ret (ret_op2 rfl rfl rfl HEND.out.1) rfl ⟨pq0, rfl, HEND.out.2⟩
  · have h2 : 16 < n := by omega
    have h3 : ¬ n < 1 := h1
    go_enter Try.func11, Try.ntmps11
    go_upto_region 1 with fail
    generalize hW : w.alloc (.cells zL.toArray 29) = w1 at H0 ⊢
    clear hW hg
    obtain ⟨b0, b1, b2, b3, b4, b5, b6, b7, b8, b9, b10, b11, b12, b13⟩ := (show Has w1 g zL from H0.out.1).f14
    obtain ⟨f0, f1, f2, f3, f4, f5, f6, f7, f8, f9, f10, f11, f12, f13⟩ := (show Has w1 g zL from H0.out.1).f14f
    have HEND : Hid (Has (putO14 w1 g o0 pq0) g zL ∧ OOwn g (putO14 w1 g o0 pq0) o0 pq0 ∧ Below g w (putO14 w1 g o0 pq0)) := zero_put H0.out.1 H0.out.2 (Nat.le_refl _)
    go_wp2
    dsimp only [putO14, put14, List.length_nil, o0, pq0] at HEND
    generalize hW : World.setCell _ (⟨g, 13, none⟩ : Addr) _ = w9 at HEND ⊢
    exact bodyPost_ret (ret_op2 rfl rfl rfl HEND.out.1) rfl ⟨pq0, rfl, HEND.out.2⟩

/-- What it holds, read back. -/
theorem okG_nat {s : List UInt8} {m : Nat} {o : O14} {z : Option Nat} (h : rdO s m = (o, z)) : okG s m = (decide (1 ≤ (m : Int) ∧ (m : Int) ≤ 16) && decide (z = some s.length) && mayO o m) := by
  unfold okG
  rw [Int.toNat_natCast, h]

set_option maxHeartbeats 8000000 in
set_option maxRecDepth 100000 in
theorem oget_good (s : ByteArray) (m : Nat) (w : World) (hs : s.size ≤ maxLen) (hm : 1 ≤ m ∧ m ≤ 16) :
    Calls Try.prog 11 #[.string s, .int .i64 (m : Nat)] w fun e w' => ∃ q, e = .returned (.tuple #[oV (getO s.data.toList m) q, .int .i64 (getE s.data.toList m)]) ∧ OOwn w.heap.size w' (getO s.data.toList m) q ∧ Below w.heap.size w w' := by
  obtain ⟨hm1, hm2⟩ := hm
  obtain ⟨g, hg⟩ : ∃ g, w.heap.size = g := ⟨_, rfl⟩
  obtain ⟨k, hk⟩ : ∃ k, g + 1 = k := ⟨_, rfl⟩
  have H0 : Hid (Has ((w.alloc (.cells zL.toArray 29)).alloc (.cells #[.string s, .int .i64 0, .bool false] 61)) g zL ∧ Rdr k s (some 0) ((w.alloc (.cells zL.toArray 29)).alloc (.cells #[.string s, .int .i64 0, .bool false] 61)) ∧ Below g w ((w.alloc (.cells zL.toArray 29)).alloc (.cells #[.string s, .int .i64 0, .bool false] 61)) ∧ ((w.alloc (.cells zL.toArray 29)).alloc (.cells #[.string s, .int .i64 0, .bool false] 61)).heap.size = k + 1) := by
    subst hk hg
    have a1 : Below w.heap.size w (w.alloc (.cells zL.toArray 29)) := (Below.refl _ _).alloc (Nat.le_refl _) _
    have a2 : Below (w.alloc (.cells zL.toArray 29)).heap.size (w.alloc (.cells zL.toArray 29)) ((w.alloc (.cells zL.toArray 29)).alloc (.cells #[.string s, .int .i64 0, .bool false] 61)) := (Below.refl _ _).alloc (Nat.le_refl _) _
    have n2 := has_new (w.alloc (.cells zL.toArray 29)) [.string s, .int .i64 0, .bool false] 61
    rw [World.size_alloc] at n2
    exact ⟨(has_new w zL _).later a2, ⟨n2, Nat.zero_le _⟩, thenB a1 a2, by simp⟩
  rw [hg]
  obtain ⟨o, z, ho⟩ : ∃ o z, rdO s.data.toList m = (o, z) := ⟨_, _, rfl⟩
  have C0 := fun W H => rop_any k s m W hs hm2 H
  have HZ := siz_rd s.data.toList m hm2
  rw [ho] at C0 HZ
  simp only at C0 HZ
  have HO : Hid (rdO s.data.toList m = (o, z)) := ho
  have HS : Hid (Siz o) := HZ
  clear ho HZ
  have q1 : ¬ ((m : Int) < 1) := by omega
  have q2 : ¬ (16 < (m : Int)) := by omega
  go_enter Try.func11, Try.ntmps11
  go_upto_region 4 with fail
  generalize hW : (w.alloc (.cells zL.toArray 29)).alloc (.cells #[.string s, .int .i64 0, .bool false] 61) = w2 at H0 ⊢
  clear hW
  try simp only [hg, hk, World.size_alloc]
  go_wp2_with fail
  refine (C0 _ H0.out.2.1).mono ?_
  rintro e w3 ⟨q, rfl, own, r, kk⟩
  obtain ⟨dn, ds, time, deps, kind, ty, idd, field, value, re, im, rn, rs, dots⟩ := o
  obtain ⟨po, pc, qo, qc⟩ := q
  obtain ⟨g7, hg7⟩ : ∃ g, w3.heap.size = g := ⟨_, rfl⟩
  have HX : Hid (Has (w3.alloc (.cells (oL ⟨dn, ds, time, deps, kind, ty, idd, field, value, re, im, rn, rs, dots⟩ ⟨po, pc, qo, qc⟩).toArray 29)) g zL ∧ Has (w3.alloc (.cells (oL ⟨dn, ds, time, deps, kind, ty, idd, field, value, re, im, rn, rs, dots⟩ ⟨po, pc, qo, qc⟩).toArray 29)) g7 (oL ⟨dn, ds, time, deps, kind, ty, idd, field, value, re, im, rn, rs, dots⟩ ⟨po, pc, qo, qc⟩) ∧ Rdr k s z (w3.alloc (.cells (oL ⟨dn, ds, time, deps, kind, ty, idd, field, value, re, im, rn, rs, dots⟩ ⟨po, pc, qo, qc⟩).toArray 29)) ∧ OOwn (k + 1) (w3.alloc (.cells (oL ⟨dn, ds, time, deps, kind, ty, idd, field, value, re, im, rn, rs, dots⟩ ⟨po, pc, qo, qc⟩).toArray 29)) ⟨dn, ds, time, deps, kind, ty, idd, field, value, re, im, rn, rs, dots⟩ ⟨po, pc, qo, qc⟩ ∧ Below g w (w3.alloc (.cells (oL ⟨dn, ds, time, deps, kind, ty, idd, field, value, re, im, rn, rs, dots⟩ ⟨po, pc, qo, qc⟩).toArray 29)) ∧ g ≠ g7) := by
    have hal : Below w3.heap.size w3 (w3.alloc (.cells (oL ⟨dn, ds, time, deps, kind, ty, idd, field, value, re, im, rn, rs, dots⟩ ⟨po, pc, qo, qc⟩).toArray 29)) := (Below.refl _ _).alloc (Nat.le_refl _) _
    have hgk : g < k := by omega
    have hs3 := Kept.size kk
    have h2 := H0.out.2.2.2
    refine ⟨(H0.out.1.ko kk (by omega)).later hal, hg7 ▸ has_new w3 _ _, r.later hal, (h2 ▸ own).later hal, ?_, by omega⟩
    exact (H0.out.2.2.1.trans (kk.below (by omega) (by omega))).alloc (by omega) _
  clear C0 own r kk H0
  go_upto_region 5 with fail
  generalize hW : w3.alloc (.cells (oL ⟨dn, ds, time, deps, kind, ty, idd, field, value, re, im, rn, rs, dots⟩ ⟨po, pc, qo, qc⟩).toArray 29) = w4 at HX ⊢
  clear hW hg7
  cases z with
  | none =>
    obtain ⟨a, hR, ha⟩ : ∃ a : Nat, Has w4 k [.string s, .int .i64 (a : Nat), .bool true] ∧ a ≤ s.size := HX.out.2.2.1
    obtain ⟨⟨c0, c1, c2⟩, _⟩ := hR.three
    clear hR
    obtain ⟨b0, b1, b2, b3, b4, b5, b6, b7, b8, b9, b10, b11, b12, b13⟩ := (show Has _ g zL from HX.out.1).f14
    obtain ⟨f0, f1, f2, f3, f4, f5, f6, f7, f8, f9, f10, f11, f12, f13⟩ := (show Has _ g zL from HX.out.1).f14f
    have HEND : Hid (Has (putO14 w4 g o0 pq0) g zL ∧ OOwn g (putO14 w4 g o0 pq0) o0 pq0 ∧ Below g w (putO14 w4 g o0 pq0)) := zero_put HX.out.1 HX.out.2.2.2.2.1 (Nat.le_refl _)
    have HG : Hid (getO s.data.toList m = o0 ∧ getE s.data.toList m = 1100) := by
      show _ ∧ _
      unfold getO getE
      rw [show okG s.data.toList m = false by unfold okG; rw [Int.toNat_natCast, HO.out]; simp]
      exact ⟨rfl, rfl⟩
    go_wp2
    rw [HG.out.1, HG.out.2]
    dsimp only [putO14, put14, List.length_nil, o0, pq0] at HEND
    generalize hW : World.setCell _ (⟨g, 13, none⟩ : Addr) _ = w9 at HEND ⊢
    exact bodyPost_ret (ret_op2 rfl rfl rfl HEND.out.1) rfl ⟨pq0, rfl, HEND.out.2⟩
  | some c =>
    obtain ⟨hR, hc⟩ : Has w4 k [.string s, .int .i64 (c : Nat), .bool false] ∧ c ≤ s.size := HX.out.2.2.1
    obtain ⟨⟨c0, c1, c2⟩, _⟩ := hR.three
    clear hR
    by_cases hcs : c = s.size
    · subst hcs
      have hn : ((s.size : Int) != (s.size : Int)) = false := by simp
      have hn2 : (s.size != s.size) = false := by simp
      obtain ⟨a0, a1, a2, a3, a4, a5, a6, a7, a8, a9, a10, a11, a12, a13⟩ := (show Has w4 g7 (oL ⟨dn, ds, time, deps, kind, ty, idd, field, value, re, im, rn, rs, dots⟩ ⟨po, pc, qo, qc⟩) from HX.out.2.1).f14
      have C := omay_any ⟨dn, ds, time, deps, kind, ty, idd, field, value, re, im, rn, rs, dots⟩ ⟨po, pc, qo, qc⟩ m w4 HX.out.2.2.2.1.row HS.out
      cases hmay : mayO ⟨dn, ds, time, deps, kind, ty, idd, field, value, re, im, rn, rs, dots⟩ m with
      | false =>
        rw [hmay] at C
        go_wp2_with fail
        refine C.mono ?_
        rintro e w5 ⟨rfl, b5⟩
        have HY : Hid (Has w5 g zL ∧ Has w5 g7 (oL ⟨dn, ds, time, deps, kind, ty, idd, field, value, re, im, rn, rs, dots⟩ ⟨po, pc, qo, qc⟩) ∧ OOwn (k + 1) w5 ⟨dn, ds, time, deps, kind, ty, idd, field, value, re, im, rn, rs, dots⟩ ⟨po, pc, qo, qc⟩ ∧ Below g w w5) := ⟨HX.out.1.later b5, HX.out.2.1.later b5, HX.out.2.2.2.1.later b5, HX.out.2.2.2.2.1.trans (b5.mono (by have := HX.out.1.1; omega))⟩
        clear b5 HX C a0 a1 a2 a3 a4 a5 a6 a7 a8 a9 a10 a11 a12 a13 c0 c1 c2
        obtain ⟨b0, b1, b2, b3, b4, b5, b6, b7, b8, b9, b10, b11, b12, b13⟩ := (show Has _ g zL from HY.out.1).f14
        obtain ⟨f0, f1, f2, f3, f4, f5, f6, f7, f8, f9, f10, f11, f12, f13⟩ := (show Has _ g zL from HY.out.1).f14f
        have HEND : Hid (Has (putO14 w5 g o0 pq0) g zL ∧ OOwn g (putO14 w5 g o0 pq0) o0 pq0 ∧ Below g w (putO14 w5 g o0 pq0)) := zero_put HY.out.1 HY.out.2.2.2 (Nat.le_refl _)
        have HG : Hid (getO s.data.toList m = o0 ∧ getE s.data.toList m = 1100) := by
          show _ ∧ _
          unfold getO getE
          rw [show okG s.data.toList m = false by unfold okG; rw [Int.toNat_natCast, HO.out]; simp [hmay]]
          exact ⟨rfl, rfl⟩
        go_wp2
        rw [HG.out.1, HG.out.2]
        dsimp only [putO14, put14, List.length_nil, o0, pq0] at HEND
        generalize hW : World.setCell _ (⟨g, 13, none⟩ : Addr) _ = w9 at HEND ⊢
        exact bodyPost_ret (ret_op2 rfl rfl rfl HEND.out.1) rfl ⟨pq0, rfl, HEND.out.2⟩
      | true =>
        rw [hmay] at C
        go_wp2_with fail
        refine C.mono ?_
        rintro e w5 ⟨rfl, b5⟩
        have HY : Hid (Has w5 g zL ∧ Has w5 g7 (oL ⟨dn, ds, time, deps, kind, ty, idd, field, value, re, im, rn, rs, dots⟩ ⟨po, pc, qo, qc⟩) ∧ OOwn (k + 1) w5 ⟨dn, ds, time, deps, kind, ty, idd, field, value, re, im, rn, rs, dots⟩ ⟨po, pc, qo, qc⟩ ∧ Below g w w5) := ⟨HX.out.1.later b5, HX.out.2.1.later b5, HX.out.2.2.2.1.later b5, HX.out.2.2.2.2.1.trans (b5.mono (by have := HX.out.1.1; omega))⟩
        clear b5 HX C a0 a1 a2 a3 a4 a5 a6 a7 a8 a9 a10 a11 a12 a13 c0 c1 c2
        obtain ⟨a0, a1, a2, a3, a4, a5, a6, a7, a8, a9, a10, a11, a12, a13⟩ := (show Has w5 g7 (oL ⟨dn, ds, time, deps, kind, ty, idd, field, value, re, im, rn, rs, dots⟩ ⟨po, pc, qo, qc⟩) from HY.out.2.1).f14
        obtain ⟨b0, b1, b2, b3, b4, b5, b6, b7, b8, b9, b10, b11, b12, b13⟩ := (show Has _ g zL from HY.out.1).f14
        obtain ⟨f0, f1, f2, f3, f4, f5, f6, f7, f8, f9, f10, f11, f12, f13⟩ := (show Has _ g zL from HY.out.1).f14f
        have HEND : Hid (Has (putO14 w5 g ⟨dn, ds, time, deps, kind, ty, idd, field, value, re, im, rn, rs, dots⟩ ⟨po, pc, qo, qc⟩) g (oL ⟨dn, ds, time, deps, kind, ty, idd, field, value, re, im, rn, rs, dots⟩ ⟨po, pc, qo, qc⟩) ∧ OOwn g (putO14 w5 g ⟨dn, ds, time, deps, kind, ty, idd, field, value, re, im, rn, rs, dots⟩ ⟨po, pc, qo, qc⟩) ⟨dn, ds, time, deps, kind, ty, idd, field, value, re, im, rn, rs, dots⟩ ⟨po, pc, qo, qc⟩ ∧ Below g w (putO14 w5 g ⟨dn, ds, time, deps, kind, ty, idd, field, value, re, im, rn, rs, dots⟩ ⟨po, pc, qo, qc⟩)) := ⟨has_putO ⟨dn, ds, time, deps, kind, ty, idd, field, value, re, im, rn, rs, dots⟩ ⟨po, pc, qo, qc⟩ HY.out.1 rfl, (HY.out.2.2.1.put (by omega)).mono (by omega), below_put14 HY.out.2.2.2 (Nat.le_refl _) _ _⟩
        have HG : Hid (getO s.data.toList m = ⟨dn, ds, time, deps, kind, ty, idd, field, value, re, im, rn, rs, dots⟩ ∧ getE s.data.toList m = 0) := by
          show _ ∧ _
          have e : okG s.data.toList m = true := by
            rw [okG_nat HO.out, hmay]
            simp
            omega
          unfold getO getE
          rw [e, Int.toNat_natCast, HO.out]
          exact ⟨rfl, rfl⟩
        clear HY hmay
        go_wp2
        rw [HG.out.1, HG.out.2]
        dsimp only [putO14, put14, List.length_nil] at HEND
        generalize hW : World.setCell _ (⟨g, 13, none⟩ : Addr) _ = w9 at HEND ⊢
        exact bodyPost_ret (ret_op2 rfl rfl rfl HEND.out.1) rfl ⟨⟨po, pc, qo, qc⟩, rfl, HEND.out.2⟩
    · have hn : ((c : Int) != (s.size : Int)) = true := by rw [bne_iff_ne]; omega
      have hn2 : (c != s.size) = true := by rw [bne_iff_ne]; exact hcs
      obtain ⟨b0, b1, b2, b3, b4, b5, b6, b7, b8, b9, b10, b11, b12, b13⟩ := (show Has _ g zL from HX.out.1).f14
      obtain ⟨f0, f1, f2, f3, f4, f5, f6, f7, f8, f9, f10, f11, f12, f13⟩ := (show Has _ g zL from HX.out.1).f14f
      have HEND : Hid (Has (putO14 w4 g o0 pq0) g zL ∧ OOwn g (putO14 w4 g o0 pq0) o0 pq0 ∧ Below g w (putO14 w4 g o0 pq0)) := zero_put HX.out.1 HX.out.2.2.2.2.1 (Nat.le_refl _)
      have HG : Hid (getO s.data.toList m = o0 ∧ getE s.data.toList m = 1100) := by
        show _ ∧ _
        unfold getO getE
        rw [show okG s.data.toList m = false by unfold okG; rw [Int.toNat_natCast, HO.out]; simp [hcs]]
        exact ⟨rfl, rfl⟩
      go_wp2
      rw [HG.out.1, HG.out.2]
      dsimp only [putO14, put14, List.length_nil, o0, pq0] at HEND
      generalize hW : World.setCell _ (⟨g, 13, none⟩ : Addr) _ = w9 at HEND ⊢
      exact bodyPost_ret (ret_op2 rfl rfl rfl HEND.out.1) rfl ⟨pq0, rfl, HEND.out.2⟩

theorem oget_any (s : ByteArray) (n : Int) (w : World) (hs : s.size ≤ maxLen) :
    Calls Try.prog 11 #[.string s, .int .i64 n] w fun e w' => ∃ q, e = .returned (.tuple #[oV (getO s.data.toList n) q, .int .i64 (getE s.data.toList n)]) ∧ OOwn w.heap.size w' (getO s.data.toList n) q ∧ Below w.heap.size w w' := by
  by_cases hn : 1 ≤ n ∧ n ≤ 16
  · obtain ⟨m, rfl⟩ := Int.eq_ofNat_of_zero_le (show 0 ≤ n by omega)
    exact oget_good s m w hs (by omega)
  · have e : okG s.data.toList n = false := by unfold okG; rw [decide_eq_false hn]; rfl
    unfold getO getE
    rw [e]
    exact oget_bad s n w hn

end Go.Proofs.Ytjfgccjdkflfoaa

