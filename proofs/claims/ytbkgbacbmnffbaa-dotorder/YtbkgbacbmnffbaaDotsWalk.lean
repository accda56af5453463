/-
  The walk of the law Dots: package dot answers what the document's own answers say, at any dots and stamps.
-/
import Derived.Test.YtbkgbacbmnffbaaDot
import Derived.Deep.RegionHeld3
namespace Go.Proofs.Ytbkgbacbmnffbaa.Dots
open Go.RowKit
set_option linter.unusedVariables false

/-- What a law keeps in three pairs of cells of its own. -/
abbrev Held3 (w0 : World) (n : Nat) (a b c d e f : Int) (w : World) : Prop :=
  Below n w0 w ∧ n + 2 < w.heap.size ∧ w.cell? ⟨n, 0, none⟩ = some (.int .i64 a) ∧ w.cell? ⟨n, 1, none⟩ = some (.int .i64 b) ∧ w.cell? ⟨n + 1, 0, none⟩ = some (.int .i64 c) ∧ w.cell? ⟨n + 1, 1, none⟩ = some (.int .i64 d) ∧
    w.cell? ⟨n + 2, 0, none⟩ = some (.int .i64 e) ∧ w.cell? ⟨n + 2, 1, none⟩ = some (.int .i64 f)

theorem keep3 {w0 : World} {n : Nat} {a b c d e f : Int} {wx w2 : World} (hb : Below wx.heap.size wx w2) (h : Held3 w0 n a b c d e f wx) : Held3 w0 n a b c d e f w2 := by
  obtain ⟨h0, hn, h1, h2, h3, h4, h5, h6⟩ := h
  have hs := hb.size
  refine ⟨h0.trans (hb.mono (by omega)), by omega, ?_, ?_, ?_, ?_, ?_, ?_⟩ <;> (rw [hb.cell (by simp; omega)]; assumption)

theorem start3 (w : World) (a b c d e f : Int) (t1 t2 t3 : TypeId) :
    Held3 w w.heap.size a b c d e f (((w.alloc (.cells #[.int .i64 a, .int .i64 b] t1)).alloc (.cells #[.int .i64 c, .int .i64 d] t2)).alloc (.cells #[.int .i64 e, .int .i64 f] t3)) := by
  have e1 : w.heap.size < w.heap.size + 1 + 1 := by omega
  refine ⟨((((Below.refl _ _).alloc (Nat.le_refl _) _).alloc (by simp) _).alloc (by simp; omega) _), by simp, ?_, ?_, ?_, ?_, ?_, ?_⟩ <;> simp [World.cell?_alloc_at, World.cell?_alloc_past, e1]

theorem drewH {w0 : World} {n : Nat} {a b c d e f : Int} {w : World} (h : Held3 w0 n a b c d e f w) : Held3 w0 n a b c d e f w.drew := ⟨h.1.drew, h.2⟩

set_option maxHeartbeats 1000000 in
set_option maxRecDepth 100000 in
theorem core (k s n a b c d : Int) (w : World) :
    Calls Try.prog 3 #[.agg #[.int .i64 k, .int .i64 s], .int .i64 n, .agg #[.int .i64 a, .int .i64 b], .agg #[.int .i64 c, .int .i64 d]] w fun e w' => e = .returned (.bool true) ∧ Below w.heap.size w w' := by
  go_enter Try.func3, Try.ntmps3
  go_wp2
  go_region_held3 (Held3 w w.heap.size k s a b c d) (first | exact keep3 hb2 (by assumption) | exact drewH (start3 _ _ _ _ _ _ _ _ _ _))
    (first
      | (go_at_call 6; refine (may_any _ _ _ _).mono ?_; rintro e w2 ⟨rfl, hb2⟩)
      | (go_at_call 7; refine (refMay_any _ _ _ _).mono ?_; rintro e w2 ⟨rfl, hb2⟩)
      | (go_at_call 8; refine (less_any _ _ _ _ _).mono ?_; rintro e w2 ⟨rfl, hb2⟩)
      | (go_at_call 9; refine (refLess_any _ _ _ _ _).mono ?_; rintro e w2 ⟨rfl, hb2⟩)
      | (go_at_call 10; refine (awake_any _).mono ?_; rintro e w2 ⟨rfl, hb2⟩))
  all_goals (go_wp2; go_ret; exact ⟨rfl, by first | exact (‹Held3 w w.heap.size k s a b c d _›).1⟩)

theorem walk {H : Type} {enc : TypeId × Value → H} {base : Nat} {d0 d2 d3 : DataW H} {p0 p2 p3 : List MemPlace} (v : Value) (n : Int) (v2 v3 : Value) (w : World)
    (o0 : Value.okWide Try.prog w .any base 23 v) (h0 : DataW.Trod enc Try.prog w 0 (fun _ => true) true 23 v d0 p0) (hn : (Lit.int .i64 n).wf = true)
    (o2 : Value.okWide Try.prog w .any base 25 v2) (h2 : DataW.Trod enc Try.prog w 0 (fun _ => true) true 25 v2 d2 p2)
    (o3 : Value.okWide Try.prog w .any base 25 v3) (h3 : DataW.Trod enc Try.prog w 0 (fun _ => true) true 25 v3 d3 p3) :
    Calls Try.prog 3 #[v, .int .i64 n, v2, v3] w fun e w' => e = .returned (.bool true) ∧ Below w.heap.size w w' := by
  obtain ⟨k, s, rfl, _, _⟩ := open_two Try.underlying23 (by kernel_rfl) rfl rfl (by kernel_rfl) (by kernel_rfl) Try.underlying3 Try.underlying3 o0 h0
  obtain ⟨a, b, rfl, _, _⟩ := open_two Try.underlying25 (by kernel_rfl) rfl rfl (by kernel_rfl) (by kernel_rfl) Try.underlying3 Try.underlying3 o2 h2
  obtain ⟨c, d, rfl, _, _⟩ := open_two Try.underlying25 (by kernel_rfl) rfl rfl (by kernel_rfl) (by kernel_rfl) Try.underlying3 Try.underlying3 o3 h3
  exact core k s n a b c d w

end Go.Proofs.Ytbkgbacbmnffbaa.Dots
