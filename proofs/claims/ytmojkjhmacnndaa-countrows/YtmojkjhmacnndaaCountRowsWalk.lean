/-
  The walk of the law CountRows: what was added in one row and in the other comes to the same, the sum of the parts.
-/
import Derived.Test.YtmojkjhmacnndaaAwake8
import Derived.Test.YtmojkjhmacnndaaPairRows
import Derived.Deep.LoopGhost
import Derived.OwnWalk
namespace Go.Proofs.Ytmojkjhmacnndaa.CountRows
open Go.RowKit
set_option linter.unusedVariables false
set_option linter.unusedSimpArgs false

/-- The sum of the first i. -/
def upS (f : Nat → Int) : Nat → Int
  | 0 => 0
  | i + 1 => upS f i + f i

theorem upS_bound (f : Nat → Int) (hf : ∀ j, -1099511627776 ≤ f j ∧ f j ≤ 1099511627776) (i : Nat) : -(i * 1099511627776 : Int) ≤ upS f i ∧ upS f i ≤ i * 1099511627776 := by
  induction i with
  | zero => simp [upS]
  | succ i ih =>
    have := hf i
    simp only [upS]
    omega

theorem upS_rev (f : Nat → Int) (K i : Nat) (h : i ≤ K) : upS (fun j => f (K - 1 - j)) i = upS f K - upS f (K - i) := by
  induction i with
  | zero => simp [upS]
  | succ i ih =>
    have e : K - i = (K - 1 - i) + 1 := by omega
    have e2 : K - (i + 1) = K - 1 - i := by omega
    rw [upS, ih (by omega), e, e2, upS]
    omega

theorem upS_all (f : Nat → Int) (K : Nat) : upS (fun j => f (K - 1 - j)) K = upS f K := by
  rw [upS_rev f K K (Nat.le_refl _), Nat.sub_self]
  simp [upS]

def f1 (ps : List P2) (i : Nat) : Int := (at2 ps i).1.tmod 1099511627777
def f2 (ps : List P2) (i : Nat) : Int := (at2 ps i).2.tmod 1099511627777

theorem rem_bound (a : Int) : -1099511627776 ≤ a.tmod 1099511627777 ∧ a.tmod 1099511627777 ≤ 1099511627776 := by
  obtain ⟨x, e, h1, h2⟩ := rem_num a
  rw [e]
  exact ⟨h1, h2⟩

/-- What the loop keeps: both cells, and the sum that is wanted. -/
def Rd (h : Nat) (w : World) (g : Nat) (A1 A2 B1 B2 : Int) (W : World) : Prop := Regs h w W [(g + 1 + 1, [.int .i64 A1, .int .i64 A2]), (g + 1, nl 1 B1 B2), (g, nl 1 A1 A2)]

theorem has_put_other {w : World} {g k : Nat} {xs : List Value} (h : Has w g xs) (hk : k ≠ g) (u0 u1 u2 u3 u4 u5 u6 u7 u8 u9 : Value) : Has (put10 w k u0 u1 u2 u3 u4 u5 u6 u7 u8 u9) g xs := by
  repeat apply Has.other (hk := hk)
  exact h

theorem Rd.later {h g : Nat} {w W W2 : World} {A1 A2 B1 B2 : Int} (H : Rd h w g A1 A2 B1 B2 W) (hb : Below W.heap.size W W2) : Rd h w g A1 A2 B1 B2 W2 := Regs.later H hb

/-- A round's end. -/
theorem rd_next {h g : Nat} {w W : World} {A1 A2 B1 B2 : Int} (H : Rd h w g A1 A2 B1 B2 W) (hg : h ≤ g) (X1 X2 Y1 Y2 : Int) (o : Obj) :
    Rd h w g X1 X2 Y1 Y2 ((((put10 (put10 W g (.int .i64 1) (.bool false) (.int .i64 0) (.int .i64 0) (.string ⟨#[]⟩) (.int .i64 X1) (.int .i64 X2) (.slice none 0 0) (.slice none 0 0) (.slice none 0 0)) (g + 1) (.int .i64 1) (.bool false) (.int .i64 0) (.int .i64 0) (.string ⟨#[]⟩) (.int .i64 Y1) (.int .i64 Y2) (.slice none 0 0) (.slice none 0 0) (.slice none 0 0)).setCell ⟨g + 1 + 1, 0, none⟩ (.int .i64 X1)).setCell ⟨g + 1 + 1, 1, none⟩ (.int .i64 X2)).alloc o) := by
  obtain ⟨h1, h2, h3, hb, hz⟩ := H
  refine Regs.later (w1 := _) ⟨?_, ?_, ?_, ?_, ?_⟩ ((Below.refl _ _).alloc (Nat.le_refl _) _)
  · exact ((has_put_other (has_put_other h1 (by omega) _ _ _ _ _ _ _ _ _ _) (by omega) _ _ _ _ _ _ _ _ _ _).put 0 _).put 1 _
  · exact (((has_put_other h2 (by omega) _ _ _ _ _ _ _ _ _ _).put10 _ _ _ _ _ _ _ _ _ _).other (by omega) _ _).other (by omega) _ _
  · exact ((has_put_other (h3.put10 _ _ _ _ _ _ _ _ _ _) (by omega) _ _ _ _ _ _ _ _ _ _).other (by omega) _ _).other (by omega) _ _
  · exact ((below_put10 (below_put10 hb hg _ _ _ _ _ _ _ _ _ _) (by omega) _ _ _ _ _ _ _ _ _ _).setCell (p := ⟨g + 1 + 1, 0, none⟩) (by show h ≤ g + 1 + 1; omega) _).setCell (p := ⟨g + 1 + 1, 1, none⟩) (by show h ≤ g + 1 + 1; omega) _
  · simpa using hz

set_option maxHeartbeats 4000000 in
set_option maxRecDepth 100000 in
theorem core (ao : Option Addr) (ca : Nat) (ps : List P2) (w : World) (hr : PRow w ao ps) (hl : ps.length ≤ maxLen) :
    Calls Try.prog 4 #[.slice ao ps.length ca] w fun e w' => e = .returned (.bool true) ∧ Below w.heap.size w w' := by
  have HP : Hid (PRow w ao ps) := hr
  unfold maxLen at hl
  obtain ⟨h, hh⟩ : ∃ h, w.heap.size = h := ⟨_, rfl⟩
  have HH : Hid (w.heap.size = h) := hh
  rw [hh]
  obtain ⟨K, hK⟩ : ∃ K : Nat, min (ps.length : Int) 40 = (K : Int) := ⟨min ps.length 40, by omega⟩
  have hK1 : K ≤ ps.length := by omega
  have hK2 : K ≤ 40 := by omega
  clear hr
  go_enter Try.func4, Try.ntmps4
  go_wp2_with fail
  refine (awake8_any _).mono ?_
  rintro e w1 ⟨rfl, b1⟩
  have H1 : Hid (Regs h w w1 []) := ⟨hh ▸ b1, by have := b1.size; omega⟩
  obtain ⟨g, hg⟩ : ∃ g, w1.heap.size = g := ⟨_, rfl⟩
  have HG : Hid (h ≤ g) := by have := H1.out.2; show h ≤ g; omega
  have R0 : Hid (Rd h w g 0 0 0 0 (((w1.alloc (.cells (nl 1 0 0).toArray 30)).alloc (.cells (nl 1 0 0).toArray 30)).alloc (.cells #[.int .i64 0, .int .i64 0] 25))) :=
    Regs.push (Regs.push (Regs.push H1.out hg (nl 1 0 0) _) (by simp [hg]) (nl 1 0 0) _) (by simp [hg]) [.int .i64 0, .int .i64 0] _
  clear b1 H1 hh
  go_wp2_with fail
  go_loopg [7] K (fun m iv wr => ∃ i : Nat, i + m = K ∧ iv = .int .i64 i ∧ Hid (Rd h w g (upS (f1 ps) i) (upS (f2 ps) i) (upS (fun j => f1 ps (K - 1 - j)) i) (upS (fun j => f2 ps (K - 1 - j)) i) wr))
  case atStart => exact ⟨0, by omega, rfl, R0.out⟩
  case round =>
    clear R0 hg
    obtain ⟨i, hiK, rfl, HR⟩ := hrel
    by_cases hi : i < K
    · obtain ⟨A1, eA1⟩ : ∃ A, upS (f1 ps) i = A := ⟨_, rfl⟩
      obtain ⟨A2, eA2⟩ : ∃ A, upS (f2 ps) i = A := ⟨_, rfl⟩
      obtain ⟨B1, eB1⟩ : ∃ A, upS (fun j => f1 ps (K - 1 - j)) i = A := ⟨_, rfl⟩
      obtain ⟨B2, eB2⟩ : ∃ A, upS (fun j => f2 ps (K - 1 - j)) i = A := ⟨_, rfl⟩
      obtain ⟨j, hj⟩ : ∃ j, K - 1 - i = j := ⟨_, rfl⟩
      have HE : Hid (upS (f1 ps) i = A1 ∧ upS (f2 ps) i = A2 ∧ upS (fun j => f1 ps (K - 1 - j)) i = B1 ∧ upS (fun j => f2 ps (K - 1 - j)) i = B2) := ⟨eA1, eA2, eB1, eB2⟩
      have H1 : Hid (Rd h w g A1 A2 B1 B2 wr) := by
        have := HR.out
        rw [eA1, eA2, eB1, eB2] at this
        exact this
      have bA1 := upS_bound (f1 ps) (fun _ => rem_bound _) i
      have bA2 := upS_bound (f2 ps) (fun _ => rem_bound _) i
      have bB1 := upS_bound (fun j => f1 ps (K - 1 - j)) (fun _ => rem_bound _) i
      have bB2 := upS_bound (fun j => f2 ps (K - 1 - j)) (fun _ => rem_bound _) i
      rw [eA1] at bA1
      rw [eA2] at bA2
      rw [eB1] at bB1
      rw [eB2] at bB2
      have cA1 : -43980465111040 ≤ A1 ∧ A1 ≤ 43980465111040 := by omega
      have cA2 : -43980465111040 ≤ A2 ∧ A2 ≤ 43980465111040 := by omega
      have cB1 : -43980465111040 ≤ B1 ∧ B1 ≤ 43980465111040 := by omega
      have cB2 : -43980465111040 ≤ B2 ∧ B2 ≤ 43980465111040 := by omega
      clear HR eA1 eA2 eB1 eB2 bA1 bA2 bB1 bB2
      obtain ⟨x, ex, bx⟩ := rem_num (at2 ps i).1
      obtain ⟨y, ey, by2⟩ := rem_num (at2 ps i).2
      obtain ⟨x2, ex2, bx2⟩ := rem_num (at2 ps j).1
      obtain ⟨y2, ey2, by3⟩ := rem_num (at2 ps j).2
      have HX : Hid (f1 ps i = x ∧ f2 ps i = y ∧ f1 ps (K - 1 - i) = x2 ∧ f2 ps (K - 1 - i) = y2) := ⟨ex, ey, by rw [hj]; exact ex2, by rw [hj]; exact ey2⟩
      have hj1 : j < ps.length := by omega
      have hj2 : j < 40 := by omega
      have ej : (K : Int) - 1 - (i : Int) = (j : Int) := by omega
      have HJ : Hid (K - 1 - i = j) := hj
      clear hj
      have hi1 : i < ps.length := by omega
      have hi2 : i < 40 := by omega
      obtain ⟨bk, off, rfl, hb, hc⟩ := HP.out (by omega)
      have HB : Hid (bk < h) := by have := HH.out; show bk < h; omega
      have HC : Hid (∀ W, Below h w W → (W.cell? ⟨bk, off + i * 2, none⟩ = some (.int .i64 (at2 ps i).1) ∧ W.cell? ⟨bk, off + i * 2 + 1, none⟩ = some (.int .i64 (at2 ps i).2)) ∧ (W.cell? ⟨bk, off + j * 2, none⟩ = some (.int .i64 (at2 ps j).1) ∧ W.cell? ⟨bk, off + j * 2 + 1, none⟩ = some (.int .i64 (at2 ps j).2))) := fun W hW =>
        ⟨⟨(hW.cell (p := ⟨bk, off + i * 2, none⟩) HB.out).trans (hc i hi1).1, (hW.cell (p := ⟨bk, off + i * 2 + 1, none⟩) HB.out).trans (hc i hi1).2⟩, (hW.cell (p := ⟨bk, off + j * 2, none⟩) HB.out).trans (hc j hj1).1, (hW.cell (p := ⟨bk, off + j * 2 + 1, none⟩) HB.out).trans (hc j hj1).2⟩
      clear hc hb
      obtain ⟨n1, hn1⟩ : ∃ n, wr.heap.size = n := ⟨_, rfl⟩
      have l5 : g + 1 + 1 < n1 := by have := H1.out.1.1; omega
      obtain ⟨⟨c1, c2⟩, _⟩ := HC.out wr H1.out.base.1
      have hbn : bk < n1 := by have := HB.out; have := H1.out.base.2; omega
      go_wp2_with fail
      go_region
      obtain ⟨W2, hW2⟩ : ∃ W2, W2 = (wr.alloc (.cells #[.int .i64 x, .int .i64 y] 25)).drew := ⟨_, rfl⟩
      have H2 : Hid (Rd h w g A1 A2 B1 B2 W2 ∧ Has W2 n1 [.int .i64 x, .int .i64 y]) := by
        rw [hW2, ← hn1]
        exact ⟨(H1.out.later ((Below.refl _ _).alloc (Nat.le_refl _) _)).later (Below.refl _ _).drew, (has_new wr [.int .i64 x, .int .i64 y] 25).later (Below.refl _ _).drew⟩
      rw [← hW2]
      clear hW2 c1 c2 hn1 ex ey H1
      obtain ⟨n2, hn2⟩ : ∃ n, W2.heap.size = n := ⟨_, rfl⟩
      obtain ⟨_, c1, c2⟩ := HC.out W2 H2.out.1.base.1
      have hbn2 : bk < n2 := by have := HB.out; have := H2.out.1.base.2; omega
      go_wp2_with fail
      go_region
      obtain ⟨W3, hW3⟩ : ∃ W3, W3 = (W2.alloc (.cells #[.int .i64 x2, .int .i64 y2] 25)).drew := ⟨_, rfl⟩
      have H3 : Hid (Rd h w g A1 A2 B1 B2 W3 ∧ Has W3 n1 [.int .i64 x, .int .i64 y] ∧ Has W3 n2 [.int .i64 x2, .int .i64 y2]) := by
        rw [hW3, ← hn2]
        exact ⟨(H2.out.1.later ((Below.refl _ _).alloc (Nat.le_refl _) _)).later (Below.refl _ _).drew, (H2.out.2.alloc _).later (Below.refl _ _).drew, (has_new W2 [.int .i64 x2, .int .i64 y2] 25).later (Below.refl _ _).drew⟩
      rw [← hW3]
      clear hW3 c1 c2 hn2 ex2 ey2 H2 hbn hbn2 ej HC HB
      obtain ⟨X1, eX1⟩ : ∃ X, A1 + x = X := ⟨_, rfl⟩
      obtain ⟨X2, eX2⟩ : ∃ X, A2 + y = X := ⟨_, rfl⟩
      obtain ⟨Y1, eY1⟩ : ∃ X, B1 + x2 = X := ⟨_, rfl⟩
      obtain ⟨Y2, eY2⟩ : ∃ X, B2 + y2 = X := ⟨_, rfl⟩
      have CA := cadd_bare (X := A1) (Y := A2) (x := x) (y := y) X1 X2 (add_small (by omega) (by omega) (by omega) (by omega)) eX1.symm eX2.symm
      have CB := cadd_bare (X := B1) (Y := B2) (x := x2) (y := y2) Y1 Y2 (add_small (by omega) (by omega) (by omega) (by omega)) eY1.symm eY2.symm
      have HY : Hid (B1 + x2 = Y1 ∧ B2 + y2 = Y2) := ⟨eY1, eY2⟩
      clear eY1 eY2
      obtain ⟨r0, r1, r2, r3, r4, r5, r6, r7, r8, r9⟩ := H3.out.1.2.2.1.ten
      have s0 := H3.out.2.1.at 0 rfl
      have s1 := H3.out.2.1.at 1 rfl
      go_wp2_with fail
      refine (CA _).mono ?_
      rintro e w4 ⟨rfl, b4⟩
      obtain ⟨n3, hn3⟩ : ∃ n, w4.heap.size = n := ⟨_, rfl⟩
      have H4 : Hid (Rd h w g A1 A2 B1 B2 w4 ∧ Has w4 n1 [.int .i64 x, .int .i64 y] ∧ Has w4 n2 [.int .i64 x2, .int .i64 y2]) := ⟨H3.out.1.later b4, H3.out.2.1.later b4, H3.out.2.2.later b4⟩
      have K4 : Hid (Has (w4.alloc (.cells (nl 1 X1 X2).toArray 30)) n3 (nl 1 X1 X2)) := hn3 ▸ has_new _ _ _
      clear b4 H3 CA r0 r1 r2 r3 r4 r5 r6 r7 r8 r9 s0 s1
      obtain ⟨r0, r1, r2, r3, r4, r5, r6, r7, r8, r9⟩ := H4.out.1.2.1.ten
      have s0 := H4.out.2.2.at 0 rfl
      have s1 := H4.out.2.2.at 1 rfl
      have l1 : g + 1 < n3 := by have := H4.out.1.2.1.1; omega
      have l6 : n1 < n3 := by have := H4.out.2.1.1; omega
      have l2 : n2 < n3 := by have := H4.out.2.2.1; omega
      go_wp2_with fail
      refine (CB _).mono ?_
      rintro e w5 ⟨rfl, b5⟩
      have hal : Below w4.heap.size w4 (w4.alloc (.cells (nl 1 X1 X2).toArray 30)) := (Below.refl _ _).alloc (Nat.le_refl _) _
      have H5 : Hid (Rd h w g A1 A2 B1 B2 w5 ∧ Has w5 n1 [.int .i64 x, .int .i64 y] ∧ Has w5 n3 (nl 1 X1 X2)) := ⟨(H4.out.1.later hal).later b5, (H4.out.2.1.later hal).later b5, K4.out.later b5⟩
      clear b5 H4 K4 CB hal hn3 l1 l2 r0 r1 r2 r3 r4 r5 r6 r7 r8 r9 s0 s1
      obtain ⟨n4, hn4⟩ : ∃ n, w5.heap.size = n := ⟨_, rfl⟩
      have l1 : g + 1 < n4 := by have := H5.out.1.2.1.1; omega
      have l0 : g < n4 := by omega
      have l2 : g + 1 + 1 < n4 := by have := H5.out.1.1.1; omega
      have l3 : n1 < n4 := by have := H5.out.2.1.1; omega
      have l4 : n3 < n4 := by have := H5.out.2.2.1; omega
      obtain ⟨r0, r1, r2, r3, r4, r5, r6, r7, r8, r9⟩ := H5.out.2.2.ten
      obtain ⟨a0, a1, a2, a3, a4, a5, a6, a7, a8, a9⟩ := H5.out.1.2.2.1.ten
      obtain ⟨z0, z1, z2, z3, z4, z5, z6, z7, z8, z9⟩ := H5.out.1.2.2.1.tenf
      obtain ⟨d0, d1, d2, d3, d4, d5, d6, d7, d8, d9⟩ := H5.out.1.2.1.ten
      obtain ⟨y0, y1, y2, y3, y4, y5, y6, y7, y8, y9⟩ := H5.out.1.2.1.tenf
      have s0 := H5.out.2.1.at 0 rfl
      have s1 := H5.out.2.1.at 1 rfl
      have u0 := H5.out.1.1.at 0 rfl
      have u1 := H5.out.1.1.at 1 rfl
      have v0 := H5.out.1.1.free 0 rfl
      have v1 := H5.out.1.1.free 1 rfl
      go_wp2_with (go_at_call 10; refine (num_any _ _).mono ?_; rintro e w0 ⟨rfl, rfl⟩)
      go_roundg (gk - 1)
      case measure => omega
      case rel =>
        have e1 : upS (f1 ps) (i + 1) = X1 := by rw [upS, HE.out.1, HX.out.1]; exact eX1
        have e2 : upS (f2 ps) (i + 1) = X2 := by rw [upS, HE.out.2.1, HX.out.2.1]; exact eX2
        have e3 : upS (fun j => f1 ps (K - 1 - j)) (i + 1) = Y1 := by rw [upS, HE.out.2.2.1, HX.out.2.2.1]; exact HY.out.1
        have e4 : upS (fun j => f2 ps (K - 1 - j)) (i + 1) = Y2 := by rw [upS, HE.out.2.2.2, HX.out.2.2.2]; exact HY.out.2
        refine ⟨i + 1, by omega, by go_num, ?_⟩
        rw [e1, e2, e3, e4]
        exact rd_next H5.out.1 HG.out X1 X2 Y1 Y2 _
    · have hiK2 : i = K := by omega
      subst hiK2
      have hd : decide ((i : Int) < (i : Int)) = false := by simp
      rw [upS_all, upS_all] at HR
      generalize upS (f1 ps) i = A1 at HR
      generalize upS (f2 ps) i = A2 at HR
      obtain ⟨r0, r1, r2, r3, r4, r5, r6, r7, r8, r9⟩ := HR.out.2.2.1.ten
      obtain ⟨d0, d1, d2, d3, d4, d5, d6, d7, d8, d9⟩ := HR.out.2.1.ten
      go_wp2_with fail
      refine (same_num 1 A1 A2 _).mono ?_
      rintro e w2 ⟨rfl, b2⟩
      have H2 : Hid (Rd h w g A1 A2 A1 A2 w2) := Rd.later HR.out b2
      clear b2 HR r0 r1 r2 r3 r4 r5 r6 r7 r8 r9 d0 d1 d2 d3 d4 d5 d6 d7 d8 d9
      have r5 := H2.out.2.2.1.at 5 rfl
      have r6 := H2.out.2.2.1.at 6 rfl
      have u0 := H2.out.1.at 0 rfl
      have u1 := H2.out.1.at 1 rfl
      go_wp2_with fail
      go_ret
      exact ⟨rfl, H2.out.base.1⟩

theorem walk {H : Type} {enc : TypeId × Value → H} {base : Nat} {d0 : DataW H} {p0 : List MemPlace} (v0 : Value) (w : World)
    (o0 : Value.okWide Try.prog w .any base 42 v0) (h0 : DataW.Trod enc Try.prog w 0 (fun _ => true) true 42 v0 d0 p0) :
    Calls Try.prog 4 #[v0] w fun e w' => e = .returned (.bool true) ∧ Below w.heap.size w w' := by
  obtain ⟨ps, ao, cap, rfl, hm, hr, _, _⟩ := isPairs_of o0 h0
  exact core ao cap ps w hr hm

end Go.Proofs.Ytmojkjhmacnndaa.CountRows
