/-
  The laws' own first look at package lww ('awake'): it answers true.
-/
import Derived.Test.YtdcfahkcgedegaaCeRef
import Derived.Test.YtdcfahkcgedegaaCeSpoil
import Derived.Test.YtdcfahkcgedegaaNum
namespace Go.Proofs.Ytdcfahkcgedegaa
open Go.RowKit
set_option linter.unusedVariables false
set_option linter.unusedSimpArgs false

/-- Set, its answer given by an equation. -/
theorem lset_is (c d : Ce) (p : Pl) (t n : Int) (v : ByteArray) (w : World) (hd : setC c t n v = d) (hr : CRow w c p) (hf : Fit c) (hb : setB c t n v = true) :
    Calls Try.prog 8 #[ceV c p, .agg #[.int .i64 t, .int .i64 n], .string v] w fun e w' => ∃ q, e = .returned (.tuple #[ceV d q, .int .i64 0]) ∧ COwn w.heap.size w' d q ∧ Nils d q ∧ Below w.heap.size w w' := by
  subst hd; exact lset_yes c p t n v w hr hf hb

theorem fit_bare {c : Ce} (h1 : c.ents = []) (h2 : c.elems = []) (h3 : c.seen.length ≤ 1000) (h4 : c.val.size ≤ 1000000) : Fit c := by
  refine ⟨by rw [h1]; simp, by rw [h2]; simp, by omega, by omega, fun i x hx => ?_, fun i x hx => ?_⟩
  · rw [h1] at hx; simp at hx
  · rw [h2] at hx; simp at hx

abbrev txt1 (b : UInt8) : ByteArray := ⟨#[b]⟩
def aw1 : Ce := ⟨0, false, 0, 0, ByteArray.empty, 0, 0, [], [], [0]⟩
def aw2 : Ce := ⟨0, true, 3, 0, ⟨#[120]⟩, 0, 0, [], [], [0]⟩
def aw3 : Ce := ⟨2, false, 0, 0, ByteArray.empty, 0, 0, [], [], []⟩

theorem aw1_row (w : World) (t : TypeId) : CRow (w.alloc (.cells #[.int .i64 0] t)) aw1 ⟨none, 0, none, 0, some ⟨w.heap.size, 0, none⟩, 1⟩ := by
  refine ⟨fun h => by simp [aw1, flatE] at h, fun h => by simp [aw1, flatL] at h, fun _ => ⟨w.heap.size, 0, rfl, by simp, fun i u hu => ?_⟩⟩
  match i, hu with
  | 0, hu =>
    simp [aw1, flatI] at hu
    subst hu
    simp [World.cell?_alloc_at]
  | i + 1, hu => simp [aw1, flatI] at hu

set_option maxHeartbeats 2000000 in
set_option maxRecDepth 100000 in
theorem awake7_any (w : World) :
    Calls Try.prog 13 #[] w fun e w' => e = .returned (.bool true) ∧ Below w.heap.size w w' := by
  have R0 : Hid (CRow (w.alloc (.cells #[.int .i64 0] 3)) aw1 ⟨none, 0, none, 0, some ⟨w.heap.size, 0, none⟩, 1⟩) := aw1_row w _
  have B0 : Hid (Below w.heap.size w ((w.alloc (.cells #[.int .i64 0] 3)).alloc (.cells (ceL aw1 ⟨none, 0, none, 0, some ⟨w.heap.size, 0, none⟩, 1⟩).toArray 30))) := ((Below.refl _ _).alloc (Nat.le_refl _) _).alloc (by simp) _
  obtain ⟨h, hh⟩ : ∃ h, w.heap.size = h := ⟨_, rfl⟩
  rw [hh] at R0 B0 ⊢
  go_enter Try.func13, Try.ntmps13
  go_wp2_with fail
  refine (lset_is aw1 aw2 ⟨none, 0, none, 0, some ⟨h, 0, none⟩, 1⟩ 3 0 ⟨#[120]⟩ _ rfl (R0.out.alloc _) (fit_bare rfl rfl (by decide) (by decide)) (by decide +kernel)).mono ?_
  rintro e w1 ⟨q, rfl, o1, n1, b1⟩
  have B1 : Hid (Below h w w1 ∧ COwn h w1 aw2 q) := ⟨B0.out.trans (b1.mono (by simp [hh]; omega)), o1.mono (by simp [hh]; omega)⟩
  clear R0 B0 o1 n1 b1
  obtain ⟨k1, hk1⟩ : ∃ k, w1.heap.size = k := ⟨_, rfl⟩
  have K1 : Hid (Has (w1.alloc (.cells (ceL aw2 q).toArray 30)) k1 (ceL aw2 q)) := by rw [← hk1]; exact has_new _ _ _
  go_wp2_with fail
  refine (lset_is aw2 aw2 q 2 5 ⟨#[121]⟩ _ rfl (B1.out.2.row.alloc _) (fit_bare rfl rfl (by decide) (by decide)) (by decide +kernel)).mono ?_
  rintro e w2 ⟨q2, rfl, o2, n2, b2⟩
  have B2 : Hid (Below h w w2 ∧ Has w2 k1 (ceL aw2 q)) := ⟨(B1.out.1.alloc (by have := B1.out.1.size; omega) _).trans (b2.mono (by have := B1.out.1.size; simp; omega)), K1.out.later b2⟩
  clear B1 K1 o2 n2 b2 hk1
  obtain ⟨k2, hk2⟩ : ∃ k, w2.heap.size = k := ⟨_, rfl⟩
  have K2 : Hid (Has (w2.alloc (.cells (ceL aw2 q2).toArray 30)) k2 (ceL aw2 q2)) := by rw [← hk2]; exact has_new _ _ _
  go_wp2_with fail
  refine (lset_no aw3 pl0 3 0 ⟨#[120]⟩ _ (by decide +kernel) (by decide)).mono ?_
  rintro e w3 ⟨rfl, b3⟩
  have B3 : Hid (Below h w w3 ∧ Has w3 k1 (ceL aw2 q) ∧ Has w3 k2 (ceL aw2 q2)) := ⟨(B2.out.1.alloc (by have := B2.out.1.size; omega) _).trans (b3.mono (by have := B2.out.1.size; simp; omega)), (B2.out.2.alloc _).later b3, K2.out.later b3⟩
  clear B2 K2 b3 hk2
  have x1 : w3.cell? ⟨k1, 1, none⟩ = some (.bool true) := B3.out.2.1.at 1 rfl
  have x2 : w3.cell? ⟨k1, 2, none⟩ = some (.int .i64 3) := B3.out.2.1.at 2 rfl
  have x3 : w3.cell? ⟨k1, 3, none⟩ = some (.int .i64 0) := B3.out.2.1.at 3 rfl
  have x4 : w3.cell? ⟨k1, 4, none⟩ = some (.string ⟨#[120]⟩) := B3.out.2.1.at 4 rfl
  have x5 : w3.cell? ⟨k2, 4, none⟩ = some (.string ⟨#[120]⟩) := B3.out.2.2.at 4 rfl
  have l1 := B3.out.2.1.1
  have l2 := B3.out.2.2.1
  go_wp2_with (go_at_call 11; refine (num_any _ _).mono ?_; rintro e w0 ⟨rfl, rfl⟩)
  go_ret
  exact ⟨rfl, B3.out.1.alloc (by have := B3.out.1.size; omega) _⟩

end Go.Proofs.Ytdcfahkcgedegaa
