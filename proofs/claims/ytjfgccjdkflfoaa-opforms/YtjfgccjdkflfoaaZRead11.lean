/-
  The two readers (package op's and the document's): a number, a text, a dot, by contracts: what they read from where they stand.
-/
import Derived.Test.YtjfgccjdkflfoaaZOp11
import Derived.Test.YtjfgccjdkflfoaaZPack2
import Derived.Test.YtjfgccjdkflfoaaZPack1
import Derived.Deep.Cut
import Derived.Deep.CutRange
namespace Go.Proofs.Ytjfgccjdkflfoaa
open Go.RowKit
set_option linter.unusedVariables false
set_option linter.unusedSimpArgs false

/-- Only block k may have turned, of what lay there. -/
abbrev KO (k : Nat) (w w' : World) : Prop := Kept (fun j => j = k) w w'
theorem KO.trans {k : Nat} {w w1 w2 : World} (h : KO k w w1) (g : KO k w1 w2) : KO k w w2 := Kept.trans h g
theorem KO.below {k B : Nat} {w w' : World} (h : KO k w w') (hB : B ≤ k) (hw : k < w.heap.size) : Below B w w' := Kept.below h (by omega) (fun j e => by omega)
theorem Has.ko {k g : Nat} {w w' : World} {xs : List Value} (h : Has w g xs) (hk : KO k w w') (hne : g ≠ k) : Has w' g xs :=
  ⟨Nat.lt_of_lt_of_le h.1 (Kept.size hk), fun i u hu => ⟨(Kept.cell hk h.1 hne).trans (h.2 i u hu).1, (Kept.frozen hk h.1 hne).trans (h.2 i u hu).2⟩⟩
theorem own_ko {k B n s : Nat} {e : TypeId} {v : Value} {xs : List Value} {w w' : World} (h : w.ownsRow B e s v n xs) (hk : KO k w w') (hB : k < B) : w'.ownsRow B e s v n xs :=
  h.kept (row := some k) ⟨hk.1.os, hk.1.tape, hk.1.output, hk.1.size, fun j hj hjk => hk.2 j hj fun e => hjk (by rw [e])⟩ (by
    rcases hv : v.ownBlock with _ | g
    · exact Or.inl rfl
    · exact Or.inr (by have := (h.lt g hv).1; intro e; injection e; omega))

/-- A reader in block k: of the text s, at the place z (none: it failed). -/
def Rdr (k : Nat) (s : ByteArray) (z : Option Nat) (w : World) : Prop := match z with
  | none => ∃ a : Nat, Has w k [.string s, .int .i64 (a : Nat), .bool true] ∧ a ≤ s.size
  | some c => Has w k [.string s, .int .i64 (c : Nat), .bool false] ∧ c ≤ s.size
theorem Rdr.lt {k : Nat} {s : ByteArray} {z : Option Nat} {w : World} (h : Rdr k s z w) : k < w.heap.size := by
  cases z with
  | none => obtain ⟨a, h, _⟩ := h; exact h.1
  | some c => exact h.1.1
theorem Rdr.later {k : Nat} {s : ByteArray} {z : Option Nat} {w w' : World} (h : Rdr k s z w) (hb : Below w.heap.size w w') : Rdr k s z w' := by
  cases z with
  | none => obtain ⟨a, h, ha⟩ := h; exact ⟨a, h.later hb, ha⟩
  | some c => exact ⟨h.1.later hb, h.2⟩
theorem Has.three {w : World} {g : Nat} {u0 u1 u2 : Value} (h : Has w g [u0, u1, u2]) : (w.cell? ⟨g, 0, none⟩ = some u0 ∧ w.cell? ⟨g, 1, none⟩ = some u1 ∧ w.cell? ⟨g, 2, none⟩ = some u2) ∧ w.frozen? ⟨g, 1, none⟩ = false ∧ w.frozen? ⟨g, 2, none⟩ = false :=
  ⟨⟨h.at 0 rfl, h.at 1 rfl, h.at 2 rfl⟩, h.free 1 rfl, h.free 2 rfl⟩
/-- Behind the two stores. -/
theorem rdr_put {k : Nat} {s : ByteArray} {w W : World} {u0 u1 u2 : Value} (h : Has W k [u0, u1, u2]) (hb : Below w.heap.size w W) (hk : k < w.heap.size) (a : Int) (f : Bool) :
    Has ((W.setCell ⟨k, 1, none⟩ (.int .i64 a)).setCell ⟨k, 2, none⟩ (.bool f)) k [u0, .int .i64 a, .bool f] ∧ KO k w ((W.setCell ⟨k, 1, none⟩ (.int .i64 a)).setCell ⟨k, 2, none⟩ (.bool f)) :=
  ⟨(h.put 1 _).put 2 _, ((Kept.of (S := fun j => j = k) hb).set (p := ⟨k, 1, none⟩) rfl _).set (p := ⟨k, 2, none⟩) rfl _⟩
theorem below_drewN {B : Nat} {a w : World} (h : Below B a w) (n : Nat) : Below B a (w.drewN n) := ⟨h.os, h.tape, h.output, h.size, h.block⟩
theorem has_drewN {w : World} {k : Nat} {xs : List Value} (h : Has w k xs) (n : Nat) : Has (w.drewN n) k xs := h

theorem nat_wf {c : Nat} (h : c < 9223372036854775808) : (Lit.int .i64 (c : Int)).wf = true := by
  exact WalkArith.wf_i64 ⟨by omega, by omega⟩
theorem getText_ok {l : List UInt8} {a : Int} {x : List UInt8} {t : Nat} (h : Vi.getText l a = (x, t, 0)) : t ≤ l.length := by
  unfold Vi.getText at h
  by_cases hi : (Vi.getI l a).2.2 = 0
  · rw [if_pos hi] at h
    by_cases h3 : 65536 < (Vi.getI l a).1
    · rw [if_pos h3] at h; simp at h
    · rw [if_neg h3] at h
      by_cases h4 : l.length - (Vi.getI l a).2.1 < (Vi.getI l a).1
      · rw [if_pos h4] at h; simp at h
      · rw [if_neg h4] at h
        simp only [Prod.mk.injEq, and_true] at h
        have hg : Vi.getI l a = ((Vi.getI l a).1, (Vi.getI l a).2.1, 0) := by rw [← hi]
        have := Vi.getI_ok hg
        omega
  · rw [if_neg hi] at h
    simp only [Prod.mk.injEq] at h
    exact absurd h.2.2 hi
theorem getText_err {l : List UInt8} {a : Int} {x : List UInt8} {t n : Nat} (h : Vi.getText l a = (x, t, n)) (hn : ¬ n = 0) : x = [] ∧ t = 0 := by
  unfold Vi.getText at h
  by_cases hi : (Vi.getI l a).2.2 = 0
  · rw [if_pos hi] at h
    by_cases h3 : 65536 < (Vi.getI l a).1
    · rw [if_pos h3] at h
      simp only [Prod.mk.injEq] at h
      exact ⟨h.1.symm, h.2.1.symm⟩
    · rw [if_neg h3] at h
      by_cases h4 : l.length - (Vi.getI l a).2.1 < (Vi.getI l a).1
      · rw [if_pos h4] at h
        simp only [Prod.mk.injEq] at h
        exact ⟨h.1.symm, h.2.1.symm⟩
      · rw [if_neg h4] at h
        simp only [Prod.mk.injEq] at h
        exact absurd h.2.2.symm hn
  · rw [if_neg hi] at h
    simp only [Prod.mk.injEq] at h
    exact ⟨h.1.symm, h.2.1.symm⟩

set_option maxHeartbeats 1000000 in
set_option maxRecDepth 100000 in
theorem rnum_any (k : Nat) (s : ByteArray) (z : Option Nat) (w : World) (hs : s.size ≤ maxLen) (h : Rdr k s z w) :
    Calls Try.prog 51 #[.pointer (some ⟨k, 0, none⟩)] w fun e w' => e = .returned (.int .i64 (rdN s.data.toList z).1) ∧ Rdr k s (rdN s.data.toList z).2 w' ∧ KO k w w' := by
  cases z with
  | none =>
    obtain ⟨a, h, ha⟩ := h
    obtain ⟨⟨c0, c1, c2⟩, _⟩ := h.three
    go_enter Try.func51, Try.ntmps51
    go_wp2
    go_ret
    exact ⟨rfl, ⟨a, h, ha⟩, Kept.refl _ _⟩
  | some c =>
    obtain ⟨h, hc⟩ := h
    have H0 : Hid (Has w k [.string s, .int .i64 (c : Nat), .bool false]) := h
    obtain ⟨⟨c0, c1, c2⟩, f1, f2⟩ := h.three
    clear h
    obtain ⟨x, t, n, hg⟩ : ∃ x t n, Vi.getI s.data.toList (c : Int) = (x, t, n) := ⟨_, _, _, rfl⟩
    have hw : (Lit.int .i64 (c : Int)).wf = true := nat_wf (by unfold maxLen at hs; omega)
    have C := fun W => get_any s (c : Int) W hs hw hg
    have HR : Hid (rdN s.data.toList (some c) = if n = 0 then ((x : Int), some t) else (0, none)) := by
      show rdN s.data.toList (some c) = _
      unfold rdN
      simp only [hg]
    have HG : Hid (Vi.getI s.data.toList (c : Int) = (x, t, n)) := hg
    clear hg hw
    by_cases hn : n = 0
    · subst hn
      have hne : (((0 : Nat) : Int) != 0) = false := rfl
      go_enter Try.func51, Try.ntmps51
      go_wp2
      go_quiet ((go_at_call 67; refine Calls.quiet_of_same (C _)))
      go_wp2
      go_ret
      have K := rdr_put (s := s) (w := w) (has_drewN H0.out nq) (below_drewN (Below.refl _ _) nq) H0.out.1 (t : Int) false
      have hk := Vi.getI_ok HG.out
      rw [HR.out]
      exact ⟨rfl, ⟨K.1, by have := size_list s; omega⟩, K.2⟩
    · have hx : x = 0 ∧ t = 0 := by
        have := Vi.getI_err (l := s.data.toList) (a := (c : Int)) (by rw [HG.out]; exact hn)
        rw [HG.out] at this
        simp only [Prod.mk.injEq] at this
        exact ⟨this.1, this.2.1⟩
      obtain ⟨rfl, rfl⟩ := hx
      have hne : ((n : Int) != 0) = true := by rw [bne_iff_ne]; omega
      have HN : Hid (¬ n = 0) := hn
      clear hn
      go_enter Try.func51, Try.ntmps51
      go_wp2
      go_quiet ((go_at_call 67; refine Calls.quiet_of_same (C _)))
      go_wp2
      go_ret
      have K := rdr_put (s := s) (w := w) (has_drewN H0.out nq) (below_drewN (Below.refl _ _) nq) H0.out.1 ((0 : Nat) : Int) true
      rw [HR.out, if_neg HN.out]
      exact ⟨rfl, ⟨0, K.1, Nat.zero_le _⟩, K.2⟩

set_option maxHeartbeats 1000000 in
set_option maxRecDepth 100000 in
theorem rtext_any (k : Nat) (s : ByteArray) (z : Option Nat) (w : World) (hs : s.size ≤ maxLen) (h : Rdr k s z w) :
    Calls Try.prog 52 #[.pointer (some ⟨k, 0, none⟩)] w fun e w' => e = .returned (.string (rdT s.data.toList z).1) ∧ Rdr k s (rdT s.data.toList z).2 w' ∧ KO k w w' := by
  cases z with
  | none =>
    obtain ⟨a, h, ha⟩ := h
    obtain ⟨⟨c0, c1, c2⟩, _⟩ := h.three
    go_enter Try.func52, Try.ntmps52
    go_wp2
    go_ret
    exact ⟨rfl, ⟨a, h, ha⟩, Kept.refl _ _⟩
  | some c =>
    obtain ⟨h, hc⟩ := h
    have H0 : Hid (Has w k [.string s, .int .i64 (c : Nat), .bool false]) := h
    obtain ⟨⟨c0, c1, c2⟩, f1, f2⟩ := h.three
    obtain ⟨x, t, n, hg⟩ : ∃ x t n, Vi.getText s.data.toList (c : Int) = (x, t, n) := ⟨_, _, _, rfl⟩
    have hw : (Lit.int .i64 (c : Int)).wf = true := nat_wf (by unfold maxLen at hs; omega)
    have C := fun W => getText_any s (c : Int) W hs hw hg
    have HR : Hid (rdT s.data.toList (some c) = if n = 0 then (⟨x.toArray⟩, some t) else (noS, none)) := by
      show rdT s.data.toList (some c) = _
      unfold rdT
      simp only [hg]
    have HG : Hid (Vi.getText s.data.toList (c : Int) = (x, t, n)) := hg
    have hne : Nonempty (MW w.heap.size w) := MW.some rfl
    have e0 : ∀ r : MW w.heap.size w, r.w.cell? ⟨k, 0, none⟩ = some (.string s) := MW.has h h.1 rfl
    have e1 : ∀ r : MW w.heap.size w, r.w.cell? ⟨k, 1, none⟩ = some (.int .i64 (c : Nat)) := MW.has h h.1 rfl
    clear hg hw h
    by_cases hn : n = 0
    · subst hn
      have hne2 : (((0 : Nat) : Int) != 0) = false := rfl
      go_enter Try.func52, Try.ntmps52
      go_wp2
      refine wp_region_mild rfl (by kernel_rfl) (by kernel_rfl) ?_
      repeat (go_big_quiet_step ((go_at_call 68; refine (C _).mono ?_; rintro e w2 ⟨rfl, b⟩; exact ⟨rfl, MW.later _ b⟩)))
      refine wpQuiet_nil ?_
      intro _ hw'
      obtain ⟨rq, rfl⟩ := hw'
      have R0 : Hid (Has rq.w k [.string s, .int .i64 (c : Nat), .bool false]) := H0.out.later rq.h.1
      obtain ⟨⟨d0, d1, d2⟩, g1, g2⟩ := R0.out.three
      go_wp2
      go_ret
      have K := rdr_put (s := s) (w := w) R0.out rq.h.1 H0.out.1 (t : Int) false
      have hk := getText_ok HG.out
      rw [HR.out]
      exact ⟨rfl, ⟨K.1, by have := size_list s; omega⟩, K.2⟩
    · obtain ⟨rfl, rfl⟩ := getText_err HG.out hn
      have hne2 : ((n : Int) != 0) = true := by rw [bne_iff_ne]; omega
      have HN : Hid (¬ n = 0) := hn
      clear hn
      go_enter Try.func52, Try.ntmps52
      go_wp2
      refine wp_region_mild rfl (by kernel_rfl) (by kernel_rfl) ?_
      repeat (go_big_quiet_step ((go_at_call 68; refine (C _).mono ?_; rintro e w2 ⟨rfl, b⟩; exact ⟨rfl, MW.later _ b⟩)))
      refine wpQuiet_nil ?_
      intro _ hw'
      obtain ⟨rq, rfl⟩ := hw'
      have R0 : Hid (Has rq.w k [.string s, .int .i64 (c : Nat), .bool false]) := H0.out.later rq.h.1
      obtain ⟨⟨d0, d1, d2⟩, g1, g2⟩ := R0.out.three
      go_wp2
      go_ret
      have K := rdr_put (s := s) (w := w) R0.out rq.h.1 H0.out.1 ((0 : Nat) : Int) true
      rw [HR.out, if_neg HN.out]
      exact ⟨rfl, ⟨0, K.1, Nat.zero_le _⟩, K.2⟩

theorem ko_put {k : Nat} {w W : World} (hb : Below w.heap.size w W) (o : Nat) (v : Value) : KO k w (W.setCell ⟨k, o, none⟩ v) := (Kept.of (S := fun j => j = k) hb).set (p := ⟨k, o, none⟩) rfl _

set_option maxHeartbeats 1000000 in
set_option maxRecDepth 100000 in
theorem dnum_any (k : Nat) (s : ByteArray) (z : Option Nat) (w : World) (hs : s.size ≤ maxLen) (h : Rdr k s z w) :
    Calls Try.prog 28 #[.pointer (some ⟨k, 0, none⟩)] w fun e w' => e = .returned (.int .i64 (rdN s.data.toList z).1) ∧ Rdr k s (rdN s.data.toList z).2 w' ∧ KO k w w' := by
  obtain ⟨c, f, H0⟩ : ∃ (c : Nat) (f : Bool), Hid (Has w k [.string s, .int .i64 (c : Nat), .bool f] ∧ c ≤ s.size ∧ z = if f then none else some c) := by
    cases z with
    | none => obtain ⟨a, h, ha⟩ := h; exact ⟨a, true, h, ha, rfl⟩
    | some c => exact ⟨c, false, h.1, h.2, rfl⟩
  clear h
  obtain ⟨⟨c0, c1, c2⟩, f1, f2⟩ := H0.out.1.three
  obtain ⟨x, t, n, hg⟩ : ∃ x t n, Vi.getI s.data.toList (c : Int) = (x, t, n) := ⟨_, _, _, rfl⟩
  have hw : (Lit.int .i64 (c : Int)).wf = true := nat_wf (by have := H0.out.2.1; unfold maxLen at hs; omega)
  have C := fun W => refGetNum_any s (c : Int) W hs hw hg
  have HG : Hid (Vi.getI s.data.toList (c : Int) = (x, t, n)) := hg
  clear hg hw
  cases f with
  | true =>
    have hz : z = none := H0.out.2.2
    subst hz
    go_enter Try.func28, Try.ntmps28
    go_wp2
    go_quiet ((go_at_call 55; refine Calls.quiet_of_same (C _)))
    go_wp2
    go_ret
    exact ⟨rfl, ⟨c, (has_drewN H0.out.1 nq).put 2 _, H0.out.2.1⟩, ko_put (below_drewN (Below.refl _ _) nq) _ _⟩
  | false =>
    have hz : z = some c := H0.out.2.2
    subst hz
    have HR : Hid (rdN s.data.toList (some c) = if n = 0 then ((x : Int), some t) else (0, none)) := by
      show rdN s.data.toList (some c) = _
      unfold rdN
      simp only [HG.out]
    by_cases hn : n = 0
    · subst hn
      have hne : (((0 : Nat) : Int) != 0) = false := rfl
      go_enter Try.func28, Try.ntmps28
      go_wp2
      go_quiet ((go_at_call 55; refine Calls.quiet_of_same (C _)))
      go_wp2
      go_ret
      have hk := Vi.getI_ok HG.out
      rw [HR.out]
      exact ⟨rfl, ⟨(has_drewN H0.out.1 nq).put 1 _, by have := size_list s; omega⟩, ko_put (below_drewN (Below.refl _ _) nq) _ _⟩
    · have hne : ((n : Int) != 0) = true := by rw [bne_iff_ne]; omega
      have HN : Hid (¬ n = 0) := hn
      clear hn
      go_enter Try.func28, Try.ntmps28
      go_wp2
      go_quiet ((go_at_call 55; refine Calls.quiet_of_same (C _)))
      go_wp2
      go_ret
      rw [HR.out, if_neg HN.out]
      exact ⟨rfl, ⟨c, (has_drewN H0.out.1 nq).put 2 _, H0.out.2.1⟩, ko_put (below_drewN (Below.refl _ _) nq) _ _⟩

set_option maxHeartbeats 1000000 in
set_option maxRecDepth 100000 in
theorem dtext_any (k : Nat) (s : ByteArray) (z : Option Nat) (w : World) (hs : s.size ≤ maxLen) (h : Rdr k s z w) :
    Calls Try.prog 29 #[.pointer (some ⟨k, 0, none⟩)] w fun e w' => e = .returned (.string (rdT s.data.toList z).1) ∧ Rdr k s (rdT s.data.toList z).2 w' ∧ KO k w w' := by
  obtain ⟨c, f, H0⟩ : ∃ (c : Nat) (f : Bool), Hid (Has w k [.string s, .int .i64 (c : Nat), .bool f] ∧ c ≤ s.size ∧ z = if f then none else some c) := by
    cases z with
    | none => obtain ⟨a, h, ha⟩ := h; exact ⟨a, true, h, ha, rfl⟩
    | some c => exact ⟨c, false, h.1, h.2, rfl⟩
  clear h
  obtain ⟨⟨c0, c1, c2⟩, f1, f2⟩ := H0.out.1.three
  obtain ⟨x, t, n, hg⟩ : ∃ x t n, Vi.getText s.data.toList (c : Int) = (x, t, n) := ⟨_, _, _, rfl⟩
  have hw : (Lit.int .i64 (c : Int)).wf = true := nat_wf (by have := H0.out.2.1; unfold maxLen at hs; omega)
  have C := fun W => refGetText_any s (c : Int) W hs hw hg
  have HG : Hid (Vi.getText s.data.toList (c : Int) = (x, t, n)) := hg
  have hne : Nonempty (MW w.heap.size w) := MW.some rfl
  have e0 : ∀ r : MW w.heap.size w, r.w.cell? ⟨k, 0, none⟩ = some (.string s) := MW.has H0.out.1 H0.out.1.1 rfl
  have e1 : ∀ r : MW w.heap.size w, r.w.cell? ⟨k, 1, none⟩ = some (.int .i64 (c : Nat)) := MW.has H0.out.1 H0.out.1.1 rfl
  clear hg hw
  cases f with
  | true =>
    have hz : z = none := H0.out.2.2
    subst hz
    go_enter Try.func29, Try.ntmps29
    go_wp2
    refine wp_region_mild rfl (by kernel_rfl) (by kernel_rfl) ?_
    repeat (go_big_quiet_step ((go_at_call 56; refine (C _).mono ?_; rintro e w2 ⟨rfl, b⟩; exact ⟨rfl, MW.later _ b⟩)))
    refine wpQuiet_nil ?_
    intro _ hw'
    obtain ⟨rq, rfl⟩ := hw'
    have R0 : Hid (Has rq.w k [.string s, .int .i64 (c : Nat), .bool true]) := H0.out.1.later rq.h.1
    obtain ⟨⟨d0, d1, d2⟩, g1, g2⟩ := R0.out.three
    go_wp2
    go_ret
    exact ⟨rfl, ⟨c, R0.out.put 2 _, H0.out.2.1⟩, ko_put rq.h.1 _ _⟩
  | false =>
    have hz : z = some c := H0.out.2.2
    subst hz
    have HR : Hid (rdT s.data.toList (some c) = if n = 0 then (⟨x.toArray⟩, some t) else (noS, none)) := by
      show rdT s.data.toList (some c) = _
      unfold rdT
      simp only [HG.out]
    by_cases hn : n = 0
    · subst hn
      have hne2 : (((0 : Nat) : Int) != 0) = false := rfl
      go_enter Try.func29, Try.ntmps29
      go_wp2
      refine wp_region_mild rfl (by kernel_rfl) (by kernel_rfl) ?_
      repeat (go_big_quiet_step ((go_at_call 56; refine (C _).mono ?_; rintro e w2 ⟨rfl, b⟩; exact ⟨rfl, MW.later _ b⟩)))
      refine wpQuiet_nil ?_
      intro _ hw'
      obtain ⟨rq, rfl⟩ := hw'
      have R0 : Hid (Has rq.w k [.string s, .int .i64 (c : Nat), .bool false]) := H0.out.1.later rq.h.1
      obtain ⟨⟨d0, d1, d2⟩, g1, g2⟩ := R0.out.three
      go_wp2
      go_ret
      have hk := getText_ok HG.out
      rw [HR.out]
      exact ⟨rfl, ⟨R0.out.put 1 _, by have := size_list s; omega⟩, ko_put rq.h.1 _ _⟩
    · have hne2 : ((n : Int) != 0) = true := by rw [bne_iff_ne]; omega
      have HN : Hid (¬ n = 0) := hn
      clear hn
      go_enter Try.func29, Try.ntmps29
      go_wp2
      refine wp_region_mild rfl (by kernel_rfl) (by kernel_rfl) ?_
      repeat (go_big_quiet_step ((go_at_call 56; refine (C _).mono ?_; rintro e w2 ⟨rfl, b⟩; exact ⟨rfl, MW.later _ b⟩)))
      refine wpQuiet_nil ?_
      intro _ hw'
      obtain ⟨rq, rfl⟩ := hw'
      have R0 : Hid (Has rq.w k [.string s, .int .i64 (c : Nat), .bool false]) := H0.out.1.later rq.h.1
      obtain ⟨⟨d0, d1, d2⟩, g1, g2⟩ := R0.out.three
      go_wp2
      go_ret
      rw [HR.out, if_neg HN.out]
      exact ⟨rfl, ⟨c, R0.out.put 2 _, H0.out.2.1⟩, ko_put rq.h.1 _ _⟩

theorem ret_dot1 {fn : Func} {tmps : Array Value} {t : Tmp} {w : World} {g : Nat} {x y : Value} (h : fn.results = #[.cell t 23]) (ht : tmps[t]? = some (.pointer (some ⟨g, 0, none⟩))) (hg : Has w g [x, y]) :
    (results fn tmps).run Try.prog w = .ok (.agg #[x, y]) w := by
  have h0 := hg.at 0 rfl
  have h1 := hg.at 1 rfl
  simp [results, h, ht, h0, h1, go_sem]
theorem rdr_off {k g : Nat} {s : ByteArray} {z : Option Nat} {w : World} (h : Rdr k s z w) (hne : g ≠ k) (o : Nat) (v : Value) : Rdr k s z (w.setCell ⟨g, o, none⟩ v) := by
  cases z with
  | none => obtain ⟨a, h, ha⟩ := h; exact ⟨a, h.other hne _ _, ha⟩
  | some c => exact ⟨h.1.other hne _ _, h.2⟩
/-- A store into a block that was not there. -/
theorem ko_new {k g : Nat} {w w' : World} (h : KO k w w') (hg : w.heap.size ≤ g) (o : Nat) (v : Value) : KO k w (w'.setCell ⟨g, o, none⟩ v) :=
  ⟨h.1.setCell (Nat.zero_le _) v, fun j hj hS => (Below.heap_setCell _ _ _ _ fun e => by have : j = g := e; omega).trans (h.2 j hj hS)⟩

set_option maxHeartbeats 1000000 in
set_option maxRecDepth 100000 in
theorem rdot_any (k : Nat) (s : ByteArray) (z : Option Nat) (w : World) (hs : s.size ≤ maxLen) (h : Rdr k s z w) :
    Calls Try.prog 50 #[.pointer (some ⟨k, 0, none⟩)] w fun e w' => e = .returned (.agg #[.int .i64 (rdD s.data.toList z).1.1, .int .i64 (rdD s.data.toList z).1.2]) ∧ Rdr k s (rdD s.data.toList z).2 w' ∧ KO k w w' := by
  obtain ⟨x, z1, h1⟩ : ∃ x z1, rdN s.data.toList z = (x, z1) := ⟨_, _, rfl⟩
  obtain ⟨y, z2, h2⟩ : ∃ x z2, rdN s.data.toList z1 = (x, z2) := ⟨_, _, rfl⟩
  have e : rdD s.data.toList z = ((x, y), z2) := by unfold rdD; rw [h1]; simp only; rw [h2]
  rw [e]
  clear e
  have C1 := fun W H => rnum_any k s z W hs H
  have C2 := fun W H => rnum_any k s z1 W hs H
  rw [h1] at C1
  rw [h2] at C2
  simp only at C1 C2 ⊢
  obtain ⟨g, hg⟩ : ∃ g, w.heap.size = g := ⟨_, rfl⟩
  have hkg : k < g := hg ▸ h.lt
  have hgs : w.heap.size ≤ g := Nat.le_of_eq hg
  have hal : Below w.heap.size w (w.alloc (.cells #[.int .i64 0, .int .i64 0] 23)) := (Below.refl _ _).alloc (Nat.le_refl _) _
  have H0 : Hid (Has (w.alloc (.cells #[.int .i64 0, .int .i64 0] 23)) g [.int .i64 0, .int .i64 0] ∧ Rdr k s z (w.alloc (.cells #[.int .i64 0, .int .i64 0] 23)) ∧ KO k w (w.alloc (.cells #[.int .i64 0, .int .i64 0] 23))) := ⟨hg ▸ has_new w [.int .i64 0, .int .i64 0] _, h.later hal, Kept.of hal⟩
  clear hal h h1 h2
  go_enter Try.func50, Try.ntmps50
  go_upto_region 1 with fail
  generalize hW : w.alloc (.cells #[.int .i64 0, .int .i64 0] 23) = w1 at H0 ⊢
  clear hW hg
  go_wp2_with fail
  refine (C1 _ H0.out.2.1).mono ?_
  rintro e w2 ⟨rfl, r2, k2⟩
  have H2 : Hid (Has w2 g [.int .i64 0, .int .i64 0] ∧ Rdr k s z1 w2 ∧ KO k w w2) := ⟨H0.out.1.ko k2 (by omega), r2, H0.out.2.2.trans k2⟩
  clear r2 k2 H0
  go_upto_region 2 with fail
  go_wp2_with fail
  refine (C2 _ H2.out.2.1).mono ?_
  rintro e w3 ⟨rfl, r3, k3⟩
  have H3 : Hid (Has w3 g [.int .i64 0, .int .i64 0] ∧ Rdr k s z2 w3 ∧ KO k w w3) := ⟨H2.out.1.ko k3 (by omega), r3, H2.out.2.2.trans k3⟩
  obtain ⟨c0, c1⟩ := (⟨H3.out.1.at 0 rfl, H3.out.1.at 1 rfl⟩ : w3.cell? ⟨g, 0, none⟩ = some (.int .i64 0) ∧ w3.cell? ⟨g, 1, none⟩ = some (.int .i64 0))
  have f0 := H3.out.1.free 0 rfl
  have f1 := H3.out.1.free 1 rfl
  clear r3 k3
  go_wp2
  exact bodyPost_ret (ret_dot1 rfl rfl ((H3.out.1.put 0 (.int .i64 x)).put 1 (.int .i64 y))) rfl ⟨rfl, rdr_off (rdr_off H3.out.2.1 (by omega) _ _) (by omega) _ _, ko_new (ko_new H3.out.2.2 hgs _ _) hgs _ _⟩

set_option maxHeartbeats 1000000 in
set_option maxRecDepth 100000 in
theorem ddot_any (k : Nat) (s : ByteArray) (z : Option Nat) (w : World) (hs : s.size ≤ maxLen) (h : Rdr k s z w) :
    Calls Try.prog 27 #[.pointer (some ⟨k, 0, none⟩)] w fun e w' => e = .returned (.agg #[.int .i64 (rdD s.data.toList z).1.1, .int .i64 (rdD s.data.toList z).1.2]) ∧ Rdr k s (rdD s.data.toList z).2 w' ∧ KO k w w' := by
  obtain ⟨x, z1, h1⟩ : ∃ x z1, rdN s.data.toList z = (x, z1) := ⟨_, _, rfl⟩
  obtain ⟨y, z2, h2⟩ : ∃ x z2, rdN s.data.toList z1 = (x, z2) := ⟨_, _, rfl⟩
  have e : rdD s.data.toList z = ((x, y), z2) := by unfold rdD; rw [h1]; simp only; rw [h2]
  rw [e]
  clear e
  have C1 := fun W H => dnum_any k s z W hs H
  have C2 := fun W H => dnum_any k s z1 W hs H
  rw [h1] at C1
  rw [h2] at C2
  simp only at C1 C2 ⊢
  obtain ⟨g, hg⟩ : ∃ g, w.heap.size = g := ⟨_, rfl⟩
  have hkg : k < g := hg ▸ h.lt
  have hgs : w.heap.size ≤ g := Nat.le_of_eq hg
  have hal : Below w.heap.size w (w.alloc (.cells #[.int .i64 0, .int .i64 0] 23)) := (Below.refl _ _).alloc (Nat.le_refl _) _
  have H0 : Hid (Has (w.alloc (.cells #[.int .i64 0, .int .i64 0] 23)) g [.int .i64 0, .int .i64 0] ∧ Rdr k s z (w.alloc (.cells #[.int .i64 0, .int .i64 0] 23)) ∧ KO k w (w.alloc (.cells #[.int .i64 0, .int .i64 0] 23))) := ⟨hg ▸ has_new w [.int .i64 0, .int .i64 0] _, h.later hal, Kept.of hal⟩
  clear hal h h1 h2
  go_enter Try.func27, Try.ntmps27
  go_upto_region 1 with fail
  generalize hW : w.alloc (.cells #[.int .i64 0, .int .i64 0] 23) = w1 at H0 ⊢
  clear hW hg
  go_wp2_with fail
  refine (C1 _ H0.out.2.1).mono ?_
  rintro e w2 ⟨rfl, r2, k2⟩
  have H2 : Hid (Has w2 g [.int .i64 0, .int .i64 0] ∧ Rdr k s z1 w2 ∧ KO k w w2) := ⟨H0.out.1.ko k2 (by omega), r2, H0.out.2.2.trans k2⟩
  clear r2 k2 H0
  obtain ⟨g2, hg2⟩ : ∃ k, w2.heap.size = k := ⟨_, rfl⟩
  have hk2 : g < g2 := by rw [← hg2]; exact H2.out.1.1
  have H3 : Hid (Has (w2.alloc (.cells #[.int .i64 x, .int .i64 0] 23)) g2 [.int .i64 x, .int .i64 0] ∧ Has (w2.alloc (.cells #[.int .i64 x, .int .i64 0] 23)) g [.int .i64 0, .int .i64 0] ∧ Rdr k s z1 (w2.alloc (.cells #[.int .i64 x, .int .i64 0] 23)) ∧ KO k w (w2.alloc (.cells #[.int .i64 x, .int .i64 0] 23))) := by
    have hal : Below w2.heap.size w2 (w2.alloc (.cells #[.int .i64 x, .int .i64 0] 23)) := (Below.refl _ _).alloc (Nat.le_refl _) _
    exact ⟨hg2 ▸ has_new w2 [.int .i64 x, .int .i64 0] _, H2.out.1.later hal, H2.out.2.1.later hal, H2.out.2.2.trans (Kept.of hal)⟩
  clear H2
  go_upto_region 2 with fail
  generalize hW : w2.alloc (.cells #[.int .i64 x, .int .i64 0] 23) = w3 at H3 ⊢
  clear hW hg2
  go_wp2_with fail
  refine (C2 _ H3.out.2.2.1).mono ?_
  rintro e w4 ⟨rfl, r4, k4⟩
  have H4 : Hid (Has w4 g2 [.int .i64 x, .int .i64 0] ∧ Has w4 g [.int .i64 0, .int .i64 0] ∧ Rdr k s z2 w4 ∧ KO k w w4) := ⟨H3.out.1.ko k4 (by omega), H3.out.2.1.ko k4 (by omega), r4, H3.out.2.2.2.trans k4⟩
  obtain ⟨c0, c1⟩ := (⟨H4.out.1.at 0 rfl, H4.out.1.at 1 rfl⟩ : w4.cell? ⟨g2, 0, none⟩ = some (.int .i64 x) ∧ w4.cell? ⟨g2, 1, none⟩ = some (.int .i64 0))
  obtain ⟨d0, d1⟩ := (⟨H4.out.2.1.at 0 rfl, H4.out.2.1.at 1 rfl⟩ : w4.cell? ⟨g, 0, none⟩ = some (.int .i64 0) ∧ w4.cell? ⟨g, 1, none⟩ = some (.int .i64 0))
  have f0 := H4.out.1.free 1 rfl
  have f1 := H4.out.2.1.free 0 rfl
  have f2 := H4.out.2.1.free 1 rfl
  clear r4 k4
  go_wp2
  exact bodyPost_ret (ret_dot1 rfl rfl (((H4.out.2.1.other (by omega) _ _).put 0 (.int .i64 x)).put 1 (.int .i64 y))) rfl ⟨rfl, rdr_off (rdr_off (rdr_off H4.out.2.2.1 (by omega) _ _) (by omega) _ _) (by omega) _ _, ko_new (ko_new (ko_new H4.out.2.2.2 (by omega) _ _) hgs _ _) hgs _ _⟩

end Go.Proofs.Ytjfgccjdkflfoaa

