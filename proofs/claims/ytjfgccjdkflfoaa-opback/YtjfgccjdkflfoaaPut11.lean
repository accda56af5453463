/-
  Package op's Put, by contract.
-/
import Derived.Test.YtjfgccjdkflfoaaWriteOp11
import Derived.Test.YtjfgccjdkflfoaaOpMay11
namespace Go.Proofs.Ytjfgccjdkflfoaa
open Go.RowKit
set_option linter.unusedVariables false
set_option linter.unusedSimpArgs false

/-- What Put answers. -/
def putA (o : O14) (n : Int) : ByteArray := if mayO o n then ⟨(putO o).toArray⟩ else noS
def putE (o : O14) (n : Int) : Int := if mayO o n then 0 else 1100

set_option maxHeartbeats 2000000 in
set_option maxRecDepth 100000 in
theorem oput_any (o : O14) (q : Pq) (n : Int) (w : World) (hr : ORow w o q) (hs : Siz o) : Calls Try.prog 9 #[oV o q, .int .i64 n] w fun e w' => e = .returned (.tuple #[.string (putA o n), .int .i64 (putE o n)]) ∧ Below w.heap.size w w' := by
  obtain ⟨h, hh⟩ : ∃ h, w.heap.size = h := ⟨_, rfl⟩
  have H0 : Hid (OBox w h o q (w.alloc (.cells (oL o q).toArray 29)) ∧ (w.alloc (.cells (oL o q).toArray 29)).heap.size = h + 1) := obox_new hh hr _
  rw [hh]
  clear hr
  go_enter Try.func9, Try.ntmps9
  go_wp2_with fail
  generalize hW : w.alloc (.cells (oL o q).toArray 29) = w1 at H0 ⊢
  clear hW hh
  obtain ⟨g0, g1, g2, g3, g4, g5, g6, g7, g8, g9, g10, g11, g12, g13⟩ := (show Has w1 h (oL o q) from H0.out.1.1).f14
  have C := omay_any o q n w1 H0.out.1.2.1 hs
  cases hm : mayO o n with
  | false =>
    rw [hm] at C
    go_wp2_with fail
    refine C.mono ?_
    rintro e w2 ⟨rfl, b2⟩
    have H2 : Hid (OBox w h o q w2) := H0.out.1.later b2
    go_wp2
    go_ret2
    exact ⟨by unfold putA putE; simp [hm], H2.out.2.2.1⟩
  | true =>
    rw [hm] at C
    go_wp2_with fail
    refine C.mono ?_
    rintro e w2 ⟨rfl, b2⟩
    have H2 : Hid (OBox w h o q w2) := H0.out.1.later b2
    clear b2 H0 g0 g1 g2 g3 g4 g5 g6 g7 g8 g9 g10 g11 g12 g13 C
    have HF : Hid (FitO o) := fit_of hm
    obtain ⟨b, hb⟩ : ∃ b, w2.heap.size = b := ⟨_, rfl⟩
    have H3 : Hid (OBox w h o q (w2.alloc (.cells #[.pointer none, .slice none 0 0] 56)) ∧ Wrt b [] (w2.alloc (.cells #[.pointer none, .slice none 0 0] 56)) ∧ FLow b (w2.alloc (.cells #[.pointer none, .slice none 0 0] 56)) q.po (flatI o.deps) ∧ FLow b (w2.alloc (.cells #[.pointer none, .slice none 0 0] 56)) q.qo (flatD o.dots) ∧ h ≤ b) := by
      subst hb
      have hal : Below w2.heap.size w2 (w2.alloc (.cells #[.pointer none, .slice none 0 0] 56)) := (Below.refl _ _).alloc (Nat.le_refl _) _
      exact ⟨H2.out.later hal, wrt_new w2, (FLow.of H2.out.2.1.1).kept hal, (FLow.of H2.out.2.1.2).kept hal, by have := H2.out.2.2.2; omega⟩
    clear H2
    go_upto_region 4 with fail
    generalize hW : w2.alloc (.cells #[.pointer none, .slice none 0 0] 56) = w3 at H3 ⊢
    clear hW hb
    obtain ⟨g0, g1, g2, g3, g4, g5, g6, g7, g8, g9, g10, g11, g12, g13⟩ := (show Has w3 h (oL o q) from H3.out.1.1).f14
    go_wp2_with fail
    refine (wop_any b o q _ H3.out.2.1 HF.out H3.out.2.2.1 H3.out.2.2.2.1).mono ?_
    rintro e w4 ⟨rfl, g4, k4⟩
    have H4 : Hid (Wrt b (putO o) w4 ∧ Below h w w4) := ⟨g4, H3.out.1.2.2.1.trans (k4.1.mono H3.out.2.2.2.2)⟩
    go_wp2_with fail
    refine (wget_any b _ _ H4.out.1 (putO_ne o)).mono ?_
    rintro e w5 ⟨rfl, b5⟩
    go_wp2
    go_ret2
    exact ⟨by unfold putA putE; simp [hm], H4.out.2.trans (b5.mono H3.out.2.2.2.2)⟩

end Go.Proofs.Ytjfgccjdkflfoaa
