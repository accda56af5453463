/-
  The walk of the law Pairs: package gauss answers what the document's own answers say, at any pairs; the pairs stay.
-/
import Derived.Test.YthogncopedfmmaaDoorRegs
import Derived.Test.YthogncopedfmmaaDoorRefSumPairs
import Derived.Test.YthogncopedfmmaaDoorPairLend
import Derived.Test.YthogncopedfmmaaDoorTakes
import Derived.Deep.RegionHeld3
namespace Go.Proofs.YthogncopedfmmaaDoor.Pairs
open Go.RowKit
set_option linter.unusedVariables false
set_option linter.unusedSimpArgs false

/-- What the last region keeps: five pairs of the law's own, the lent row. -/
abbrev HeldP (w0 : World) (n h2 h3 h4 h5 g : Nat) (l : List P2) (a1 a2 p1 p2 s1 s2 : Int) (w : World) : Prop :=
  Hid (Below w0.heap.size w0 w ∧ Reg w [(h5, s1, s2), (h4, s1, s2), (h3, p1, p2), (h2, p1, p2), (n, a1, a2)] ∧ PRow w (some ⟨g, 0, none⟩) l) ∧
  w.cell? ⟨h5, 0, none⟩ = some (.int .i64 s1) ∧ w.cell? ⟨h5, 1, none⟩ = some (.int .i64 s2) ∧ w.cell? ⟨h4, 0, none⟩ = some (.int .i64 s1) ∧ w.cell? ⟨h4, 1, none⟩ = some (.int .i64 s2) ∧
  w.cell? ⟨h3, 0, none⟩ = some (.int .i64 p1) ∧ w.cell? ⟨h3, 1, none⟩ = some (.int .i64 p2) ∧ w.cell? ⟨h2, 0, none⟩ = some (.int .i64 p1) ∧ w.cell? ⟨h2, 1, none⟩ = some (.int .i64 p2) ∧
  w.cell? ⟨n, 0, none⟩ = some (.int .i64 a1) ∧ w.cell? ⟨n, 1, none⟩ = some (.int .i64 a2)

theorem heldP_of {w0 w : World} {n h2 h3 h4 h5 g : Nat} {l : List P2} {a1 a2 p1 p2 s1 s2 : Int} (hb : Below w0.heap.size w0 w) (h : Reg w [(h5, s1, s2), (h4, s1, s2), (h3, p1, p2), (h2, p1, p2), (n, a1, a2)]) (hr : PRow w (some ⟨g, 0, none⟩) l) : HeldP w0 n h2 h3 h4 h5 g l a1 a2 p1 p2 s1 s2 w :=
  ⟨⟨hb, h, hr⟩, h.1.2.1, h.1.2.2.1, h.2.1.2.1, h.2.1.2.2.1, h.2.2.1.2.1, h.2.2.1.2.2.1, h.2.2.2.1.2.1, h.2.2.2.1.2.2.1, h.2.2.2.2.1.2.1, h.2.2.2.2.1.2.2.1⟩

theorem heldP_later {w0 w w' : World} {n h2 h3 h4 h5 g : Nat} {l : List P2} {a1 a2 p1 p2 s1 s2 : Int} (hb : Below w.heap.size w w') (h : HeldP w0 n h2 h3 h4 h5 g l a1 a2 p1 p2 s1 s2 w) : HeldP w0 n h2 h3 h4 h5 g l a1 a2 p1 p2 s1 s2 w' :=
  heldP_of (thenB h.1.out.1 hb) (h.1.out.2.1.later hb) (h.1.out.2.2.later hb)

theorem PRow.alloc {w : World} {ao : Option Addr} {l : List P2} (h : PRow w ao l) (o : Obj) : PRow (w.alloc o) ao l := PRow.later h ((Below.refl _ _).alloc (Nat.le_refl _) _)

set_option maxHeartbeats 8000000 in
set_option maxRecDepth 100000 in
theorem core (a1 a2 b1 b2 : Int) (ao : Option Addr) (ca : Nat) (ps : List P2) (w : World) (ha1 : -9223372036854775808 ≤ a1 ∧ a1 ≤ 9223372036854775807) (ha2 : -9223372036854775808 ≤ a2 ∧ a2 ≤ 9223372036854775807) (hr : PRow w ao ps) (hl : ps.length * 16 ≤ 140737488351232) (ht : Tab w) :
    Calls Tryd.prog 3 #[pv a1 a2, pv b1 b2, .slice ao ps.length ca] w fun e w' => e = .returned (.bool true) ∧ Below w.heap.size w w' := by
  have CG := gadd_any a1 a2 b1 b2
  have CR := radd_any a1 a2 b1 b2
  generalize sre a1 a2 b1 b2 = p1 at CG CR
  generalize sim a1 a2 b1 b2 = p2 at CG CR
  generalize ser a1 a2 b1 b2 = pe at CG CR
  obtain ⟨s1, s2, se, hs⟩ : ∃ s1 s2 se, sumF ps 0 0 = (s1, s2, se) := ⟨_, _, _, rfl⟩
  have HP : Hid (PRow w ao ps ∧ Tab w ∧ sumF ps 0 0 = (s1, s2, se)) := ⟨hr, ht, hs⟩
  have hml : ps.length ≤ maxLen := by unfold maxLen; omega
  obtain ⟨n, hn⟩ : ∃ n, w.heap.size = n := ⟨_, rfl⟩
  have B0 : Hid (Below w.heap.size w ((w.alloc (.cells #[.int .i64 a1, .int .i64 a2] 23)).alloc (.cells #[.int .i64 b1, .int .i64 b2] 23)) ∧
      Reg ((w.alloc (.cells #[.int .i64 a1, .int .i64 a2] 23)).alloc (.cells #[.int .i64 b1, .int .i64 b2] 23)) [(n + 1, b1, b2), (n, a1, a2)]) := by
    refine ⟨thenB ((Below.refl _ _).alloc (Nat.le_refl _) _) ((Below.refl _ _).alloc (Nat.le_refl _) _), ?_⟩
    have R0 : Reg w [] := trivial
    have R1 := R0.push hn a1 a2 23
    exact R1.push (g := n + 1) (by simp [hn]) b1 b2 23
  have CL := plend_any ao ca ps ((w.alloc (.cells #[.int .i64 a1, .int .i64 a2] 23)).alloc (.cells #[.int .i64 b1, .int .i64 b2] 23)) (hr.later B0.out.1) hl
  clear hr ht hs
  go_enter Tryd.func3, Tryd.ntmps3
  go_wp2_with fail
  refine CL.mono ?_
  rintro e w1 ⟨g, c, rfl, r1, hc, _, k1⟩
  have H1 : Hid (Below w.heap.size w w1 ∧ Reg w1 [(n + 1, b1, b2), (n, a1, a2)] ∧ PRow w1 (some ⟨g, 0, none⟩) (ps ++ [(77777, 0), (77777, 0)])) := ⟨thenB B0.out.1 k1, B0.out.2.later k1, r1⟩
  obtain ⟨_, ⟨⟨_, p3, p4, _, _⟩, ⟨_, p5, p6, _, _⟩, _⟩, _⟩ := id H1.out
  clear CL B0 k1 r1 hn
  go_wp2_with fail
  refine (CG _).mono ?_
  rintro e w2 ⟨rfl, k2⟩
  have H2 : Hid (Below w.heap.size w w2 ∧ Reg w2 [(n + 1, b1, b2), (n, a1, a2)] ∧ PRow w2 (some ⟨g, 0, none⟩) (ps ++ [(77777, 0), (77777, 0)])) := ⟨thenB H1.out.1 k2, H1.out.2.1.later k2, H1.out.2.2.later k2⟩
  clear p3 p4 p5 p6 H1 k2 CG
  obtain ⟨h2, e2⟩ : ∃ h, w2.heap.size = h := ⟨_, rfl⟩
  obtain ⟨_, ⟨⟨l1, p3, p4, _, _⟩, ⟨l2, p5, p6, _, _⟩, _⟩, _⟩ := id H2.out
  rw [e2] at l1 l2
  go_wp2_with fail
  refine (CR _).mono ?_
  rintro e w3 ⟨rfl, k3⟩
  have H3 : Hid (Below w.heap.size w w3 ∧ Reg w3 [(h2, p1, p2), (n + 1, b1, b2), (n, a1, a2)] ∧ PRow w3 (some ⟨g, 0, none⟩) (ps ++ [(77777, 0), (77777, 0)])) := ⟨thenA H2.out.1 k3, (H2.out.2.1.push e2 _ _ _).later k3, (PRow.alloc H2.out.2.2 _).later k3⟩
  clear p3 p4 p5 p6 l1 l2 H2 k3 CR e2
  obtain ⟨h3, e3⟩ : ∃ h, w3.heap.size = h := ⟨_, rfl⟩
  have CS := gsum_any (some ⟨g, 0, none⟩) c ps (w3.alloc (.cells #[.int .i64 p1, .int .i64 p2] 23)) (prow_head (PRow.alloc H3.out.2.2 _)) hml HP.out.2.2
  go_wp2_with fail
  refine CS.mono ?_
  rintro e w4 ⟨rfl, k4⟩
  have H4 : Hid (Below w.heap.size w w4 ∧ Reg w4 [(h3, p1, p2), (h2, p1, p2), (n + 1, b1, b2), (n, a1, a2)] ∧ PRow w4 (some ⟨g, 0, none⟩) (ps ++ [(77777, 0), (77777, 0)])) := ⟨thenA H3.out.1 k4, (H3.out.2.1.push e3 _ _ _).later k4, (PRow.alloc H3.out.2.2 _).later k4⟩
  clear H3 k4 CS e3
  obtain ⟨h4, e4⟩ : ∃ h, w4.heap.size = h := ⟨_, rfl⟩
  have CT := rsum_any ao ca ps (w4.alloc (.cells #[.int .i64 s1, .int .i64 s2] 23)) ((HP.out.1.later H4.out.1).later ((Below.refl _ _).alloc (Nat.le_refl _) _)) hml HP.out.2.2
  go_wp2_with fail
  refine CT.mono ?_
  rintro e w5 ⟨rfl, k5⟩
  have H5 : Hid (Below w.heap.size w w5 ∧ Reg w5 [(h4, s1, s2), (h3, p1, p2), (h2, p1, p2), (n + 1, b1, b2), (n, a1, a2)] ∧ PRow w5 (some ⟨g, 0, none⟩) (ps ++ [(77777, 0), (77777, 0)])) := ⟨thenA H4.out.1 k5, (H4.out.2.1.push e4 _ _ _).later k5, (PRow.alloc H4.out.2.2 _).later k5⟩
  clear H4 k5 CT e4
  obtain ⟨h5, e5⟩ : ∃ h, w5.heap.size = h := ⟨_, rfl⟩
  obtain ⟨_, ⟨_, _, _, _, ⟨l2, p5, p6, _, _⟩, _⟩, _⟩ := id H5.out
  rw [e5] at l2
  go_wp2_with fail
  refine (rmay_any _ _ _).mono ?_
  rintro e w6 ⟨rfl, k6⟩
  have H6 : Hid (HeldP w n h2 h3 h4 h5 g (ps ++ [(77777, 0), (77777, 0)]) a1 a2 p1 p2 s1 s2 w6) :=
    have R := (H5.out.2.1.push e5 s1 s2 23).later k6
    heldP_of (thenA H5.out.1 k6) ⟨R.1, R.2.1, R.2.2.1, R.2.2.2.1, R.2.2.2.2.2.1, trivial⟩ ((PRow.alloc H5.out.2.2 _).later k6)
  clear H5 k6 e5 l2 p5 p6
  have hpe : (pe == pe) = true := by simp
  have hse : (se == se) = true := by simp
  cases hm : pairB a1 a2
  · go_wp2_with fail
    refine wp_region_held_drew (S := HeldP w n h2 h3 h4 h5 g (ps ++ [(77777, 0), (77777, 0)]) a1 a2 p1 p2 s1 s2) (by kernel_rfl) (heldP_later (Below.refl _ _).drew H6.out) (fun hHeld => ?_)
    refine take_at 0 43 (v := .agg #[.int .i64 p1, .int .i64 p2]) rfl (by kernel_rfl) (by kernel_rfl) (by kernel_rfl) (fun _ _ _ h => h) rfl (by rfl) (fun w hSw => ?hy) hHeld ?_
    case hy =>
      try dsimp only at hSw
      go_simp
    simp only [List.set_cons_zero, List.set_cons_succ]
    refine take_at 1 44 (v := .agg #[.int .i64 p1, .int .i64 p2]) rfl (by kernel_rfl) (by kernel_rfl) (by kernel_rfl) (fun _ _ _ h => h) rfl (by rfl) (fun w hSw => ?hy) hHeld ?_
    case hy =>
      try dsimp only at hSw
      go_simp
    simp only [List.set_cons_zero, List.set_cons_succ]
    refine take_at 2 45 (v := .bool true) rfl (by kernel_rfl) (by kernel_rfl) (by kernel_rfl) (fun _ _ _ h => h) rfl (by rfl) (fun w hSw => ?hy) hHeld ?_
    case hy =>
      try dsimp only at hSw
      go_simp
    simp only [List.set_cons_zero, List.set_cons_succ]
    refine take_at 3 46 (v := .bool true) rfl (by kernel_rfl) (by kernel_rfl) (by kernel_rfl) (fun _ _ _ h => h) rfl (by rfl) (fun w hSw => ?hy) hHeld ?_
    case hy =>
      try dsimp only at hSw
      go_simp
    simp only [List.set_cons_zero, List.set_cons_succ]
    refine take_at 4 47 (v := .int .i64 pe) rfl (by kernel_rfl) (by kernel_rfl) (by kernel_rfl) (fun _ _ _ h => h) rfl (by rfl) (fun w hSw => ?hy) hHeld ?_
    case hy =>
      try dsimp only at hSw
      go_simp
    simp only [List.set_cons_zero, List.set_cons_succ]
    refine take_at 6 49 (v := .int .i64 pe) rfl (by kernel_rfl) (by kernel_rfl) (by kernel_rfl) (fun _ _ _ h => h) rfl (by rfl) (fun w hSw => ?hy) hHeld ?_
    case hy =>
      try dsimp only at hSw
      go_simp
    simp only [List.set_cons_zero, List.set_cons_succ]
    refine wpAnyH_ready (rs := [5]) (by kernel_rfl) (by simp) ?_
    refine AllReadyH.cons rfl (fun K hK => ?_) AllReadyH.nil
    go_simp
    refine (num_any _ _).mono ?_
    rintro e wz ⟨rfl, rfl⟩
    go_wp2_with fail
    refine hK.out _ _ (hHeld) (fun hHeld => ?_)
    clear hK K
    try simp only [Act.put, List.setIfInBounds_toArray, List.set_cons_zero, List.set_cons_succ]
    refine take_at 7 50 (v := .bool true) rfl (by kernel_rfl) (by kernel_rfl) (by kernel_rfl) (fun _ _ _ h => h) rfl (by rfl) (fun w hSw => ?hy) hHeld ?_
    case hy =>
      try dsimp only at hSw
      go_simp
    simp only [List.set_cons_zero, List.set_cons_succ]
    refine take_at 8 51 (v := .bool true) rfl (by kernel_rfl) (by kernel_rfl) (by kernel_rfl) (fun _ _ _ h => h) rfl (by rfl) (fun w hSw => ?hy) hHeld ?_
    case hy =>
      try dsimp only at hSw
      go_simp
    simp only [List.set_cons_zero, List.set_cons_succ]
    refine take_at 9 52 (v := .bool true) rfl (by kernel_rfl) (by kernel_rfl) (by kernel_rfl) (fun _ _ _ h => h) rfl (by rfl) (fun w hSw => ?hy) hHeld ?_
    case hy =>
      try dsimp only at hSw
      go_simp
    simp only [List.set_cons_zero, List.set_cons_succ]
    refine take_at 10 53 (v := .agg #[.int .i64 s1, .int .i64 s2]) rfl (by kernel_rfl) (by kernel_rfl) (by kernel_rfl) (fun _ _ _ h => h) rfl (by rfl) (fun w hSw => ?hy) hHeld ?_
    case hy =>
      try dsimp only at hSw
      go_simp
    simp only [List.set_cons_zero, List.set_cons_succ]
    refine take_at 11 54 (v := .agg #[.int .i64 s1, .int .i64 s2]) rfl (by kernel_rfl) (by kernel_rfl) (by kernel_rfl) (fun _ _ _ h => h) rfl (by rfl) (fun w hSw => ?hy) hHeld ?_
    case hy =>
      try dsimp only at hSw
      go_simp
    simp only [List.set_cons_zero, List.set_cons_succ]
    refine take_at 12 55 (v := .bool true) rfl (by kernel_rfl) (by kernel_rfl) (by kernel_rfl) (fun _ _ _ h => h) rfl (by rfl) (fun w hSw => ?hy) hHeld ?_
    case hy =>
      try dsimp only at hSw
      go_simp
    simp only [List.set_cons_zero, List.set_cons_succ]
    refine take_at 13 56 (v := .bool true) rfl (by kernel_rfl) (by kernel_rfl) (by kernel_rfl) (fun _ _ _ h => h) rfl (by rfl) (fun w hSw => ?hy) hHeld ?_
    case hy =>
      try dsimp only at hSw
      go_simp
    simp only [List.set_cons_zero, List.set_cons_succ]
    refine take_at 14 57 (v := .bool true) rfl (by kernel_rfl) (by kernel_rfl) (by kernel_rfl) (fun _ _ _ h => h) rfl (by rfl) (fun w hSw => ?hy) hHeld ?_
    case hy =>
      try dsimp only at hSw
      go_simp
    simp only [List.set_cons_zero, List.set_cons_succ]
    refine take_at 15 58 (v := .int .i64 se) rfl (by kernel_rfl) (by kernel_rfl) (by kernel_rfl) (fun _ _ _ h => h) rfl (by rfl) (fun w hSw => ?hy) hHeld ?_
    case hy =>
      try dsimp only at hSw
      go_simp
    simp only [List.set_cons_zero, List.set_cons_succ]
    refine take_at 17 60 (v := .int .i64 se) rfl (by kernel_rfl) (by kernel_rfl) (by kernel_rfl) (fun _ _ _ h => h) rfl (by rfl) (fun w hSw => ?hy) hHeld ?_
    case hy =>
      try dsimp only at hSw
      go_simp
    simp only [List.set_cons_zero, List.set_cons_succ]
    refine wpAnyH_ready (rs := [16]) (by kernel_rfl) (by simp) ?_
    refine AllReadyH.cons rfl (fun K hK => ?_) AllReadyH.nil
    go_simp
    refine (num_any _ _).mono ?_
    rintro e wz ⟨rfl, rfl⟩
    go_wp2_with fail
    refine hK.out _ _ (hHeld) (fun hHeld => ?_)
    clear hK K
    try simp only [Act.put, List.setIfInBounds_toArray, List.set_cons_zero, List.set_cons_succ]
    refine take_at 18 61 (v := .bool true) rfl (by kernel_rfl) (by kernel_rfl) (by kernel_rfl) (fun _ _ _ h => h) rfl (by rfl) (fun w hSw => ?hy) hHeld ?_
    case hy =>
      try dsimp only at hSw
      go_simp
    simp only [List.set_cons_zero, List.set_cons_succ]
    refine take_at 19 62 (v := .bool true) rfl (by kernel_rfl) (by kernel_rfl) (by kernel_rfl) (fun _ _ _ h => h) rfl (by rfl) (fun w hSw => ?hy) hHeld ?_
    case hy =>
      try dsimp only at hSw
      go_simp
    simp only [List.set_cons_zero, List.set_cons_succ]
    refine take_at 20 63 (v := .bool true) rfl (by kernel_rfl) (by kernel_rfl) (by kernel_rfl) (fun _ _ _ h => h) rfl (by rfl) (fun w hSw => ?hy) hHeld ?_
    case hy =>
      try dsimp only at hSw
      go_simp
    simp only [List.set_cons_zero, List.set_cons_succ]
    refine take_at 21 64 (v := .bool false) rfl (by kernel_rfl) (by kernel_rfl) (by kernel_rfl) (fun _ _ _ h => h) rfl (by rfl) (fun w hSw => ?hy) hHeld ?_
    case hy =>
      try dsimp only at hSw
      go_simp
    simp only [List.set_cons_zero, List.set_cons_succ]
    refine take_at 22 65 (v := .bool true) rfl (by kernel_rfl) (by kernel_rfl) (by kernel_rfl) (fun _ _ _ h => h) rfl (by rfl) (fun w hSw => ?hy) hHeld ?_
    case hy =>
      try dsimp only at hSw
      go_simp
    simp only [List.set_cons_zero, List.set_cons_succ]
    refine take_at 23 66 (v := .bool true) rfl (by kernel_rfl) (by kernel_rfl) (by kernel_rfl) (fun _ _ _ h => h) rfl (by rfl) (fun w hSw => ?hy) hHeld ?_
    case hy =>
      try dsimp only at hSw
      go_simp
    simp only [List.set_cons_zero, List.set_cons_succ]
    refine skip_at 24 67 rfl (by kernel_rfl) (by kernel_rfl) (by kernel_rfl) (fun _ _ _ h => h) rfl (by rfl) hHeld ?_
    simp only [List.set_cons_zero, List.set_cons_succ]
    refine skip_at 26 69 rfl (by kernel_rfl) (by kernel_rfl) (by kernel_rfl) (fun _ _ _ h => h) rfl (by rfl) hHeld ?_
    simp only [List.set_cons_zero, List.set_cons_succ]
    refine wpAnyH_ready (rs := [25]) (by kernel_rfl) (by simp) ?_
    refine AllReadyH.cons rfl (fun K hK => ?_) AllReadyH.nil
    go_simp
    refine hK.out _ _ hHeld (fun hHeld => ?_)
    clear hK K
    try simp only [Act.put, List.setIfInBounds_toArray, List.set_cons_zero, List.set_cons_succ]
    refine wpAnyH_ready (rs := [27]) (by kernel_rfl) (by simp) ?_
    refine AllReadyH.cons rfl (fun K hK => ?_) AllReadyH.nil
    go_simp
    refine hK.out _ _ hHeld (fun hHeld => ?_)
    clear hK K
    try simp only [Act.put, List.setIfInBounds_toArray, List.set_cons_zero, List.set_cons_succ]
    refine skip_at 28 71 rfl (by kernel_rfl) (by kernel_rfl) (by kernel_rfl) (fun _ _ _ h => h) rfl (by rfl) hHeld ?_
    simp only [List.set_cons_zero, List.set_cons_succ]
    refine take_at 29 72 (v := .bool true) rfl (by kernel_rfl) (by kernel_rfl) (by kernel_rfl) (fun _ _ _ h => h) rfl (by rfl) (fun w hSw => ?hy) hHeld ?_
    case hy =>
      try dsimp only at hSw
      go_simp
    simp only [List.set_cons_zero, List.set_cons_succ]
    refine take_at 30 73 (v := .bool true) rfl (by kernel_rfl) (by kernel_rfl) (by kernel_rfl) (fun _ _ _ h => h) rfl (by rfl) (fun w hSw => ?hy) hHeld ?_
    case hy =>
      try dsimp only at hSw
      go_simp
    simp only [List.set_cons_zero, List.set_cons_succ]
    refine take_at 31 74 (v := .bool true) rfl (by kernel_rfl) (by kernel_rfl) (by kernel_rfl) (fun _ _ _ h => h) rfl (by rfl) (fun w hSw => ?hy) hHeld ?_
    case hy =>
      try dsimp only at hSw
      go_simp
    simp only [List.set_cons_zero, List.set_cons_succ]
    refine take_at 32 75 (v := .slice (some ⟨g, 0, none⟩) ps.length c) rfl (by kernel_rfl) (by kernel_rfl) (by kernel_rfl) (fun _ _ _ h => h) rfl (by rfl) (fun w hSw => ?hy) hHeld ?_
    case hy =>
      try dsimp only at hSw
      go_simp
    simp only [List.set_cons_zero, List.set_cons_succ]
    refine take_at 33 76 (v := .slice ao ps.length ca) rfl (by kernel_rfl) (by kernel_rfl) (by kernel_rfl) (fun _ _ _ h => h) rfl (by rfl) (fun w hSw => ?hy) hHeld ?_
    case hy =>
      try dsimp only at hSw
      go_simp
    simp only [List.set_cons_zero, List.set_cons_succ]
    refine wpAnyH_ready (rs := [34]) (by kernel_rfl) (by simp) ?_
    refine AllReadyH.cons rfl (fun K hK => ?_) AllReadyH.nil
    go_simp
    refine (pkept_any g c ao ca ps _ (HP.out.1.later hHeld.1.out.1) hHeld.1.out.2.2 hc hl).mono ?_
    rintro e w8 ⟨rfl, hb2⟩
    go_wp2_with fail
    refine hK.out _ _ (heldP_later hb2 hHeld) (fun hHeld => ?_)
    clear hK K
    try simp only [Act.put, List.setIfInBounds_toArray, List.set_cons_zero, List.set_cons_succ]
    refine take_at 35 78 (v := .bool true) rfl (by kernel_rfl) (by kernel_rfl) (by kernel_rfl) (fun _ _ _ h => h) rfl (by rfl) (fun w hSw => ?hy) hHeld ?_
    case hy =>
      try dsimp only at hSw
      go_simp
    simp only [List.set_cons_zero, List.set_cons_succ]
    refine take_at 36 79 (v := .bool true) rfl (by kernel_rfl) (by kernel_rfl) (by kernel_rfl) (fun _ _ _ h => h) rfl (by rfl) (fun w hSw => ?hy) hHeld ?_
    case hy =>
      try dsimp only at hSw
      go_simp
    simp only [List.set_cons_zero, List.set_cons_succ]
    refine wpAnyH_ready (rs := [37]) (by kernel_rfl) (by simp) ?_
    refine AllReadyH.cons rfl (fun K hK => ?_) AllReadyH.nil
    go_simp
    refine (awake_any _ (HP.out.2.1.later hHeld.1.out.1)).mono ?_
    rintro e w9 ⟨rfl, hb3⟩
    go_wp2_with fail
    refine hK.out _ _ (heldP_later hb3 hHeld) (fun hHeld => ?_)
    clear hK K
    try simp only [Act.put, List.setIfInBounds_toArray, List.set_cons_zero, List.set_cons_succ]
    refine take_at 38 81 (v := .bool true) rfl (by kernel_rfl) (by kernel_rfl) (by kernel_rfl) (fun _ _ _ h => h) rfl (by rfl) (fun w hSw => ?hy) hHeld ?_
    case hy =>
      try dsimp only at hSw
      go_simp
    simp only [List.set_cons_zero, List.set_cons_succ]
    refine take_at 39 6 (v := .bool true) rfl (by kernel_rfl) (by kernel_rfl) (by kernel_rfl) (fun _ _ _ h => h) rfl (by rfl) (fun w hSw => ?hy) hHeld ?_
    case hy =>
      try dsimp only at hSw
      go_simp
    simp only [List.set_cons_zero, List.set_cons_succ]
    refine wpAnyH_done (by kernel_rfl) ?_ _
    go_wp2
    go_ret
    exact ⟨rfl, hHeld.1.out.1⟩
  · have hb := pairB_parts hm
    go_wp2_with fail
    go_region_held3 (HeldP w n h2 h3 h4 h5 g (ps ++ [(77777, 0), (77777, 0)]) a1 a2 p1 p2 s1 s2) (first | exact heldP_later hb2 (by assumption) | assumption | exact heldP_later (Below.refl _ _).drew H6.out)
      (first
        | (go_at_call 14; refine (num_any _ _).mono ?_; rintro e wz ⟨rfl, rfl⟩)
        | (go_at_call 15; refine (gtext_any _ _ _ (by omega) (by omega) (by omega) (by omega) (HP.out.2.1.later (‹HeldP w n h2 h3 h4 h5 g (ps ++ [(77777, 0), (77777, 0)]) a1 a2 p1 p2 s1 s2 _›).1.out.1)).mono ?_; rintro e w8 ⟨rfl, hb2⟩)
        | (go_at_call 16; refine (rtext_any _ _ _ (by omega) (by omega) (by omega) (by omega)).mono ?_; rintro e w8 ⟨rfl, hb2⟩)
        | (go_at_call 17; refine (pkept_any g c ao ca ps _ (HP.out.1.later (‹HeldP w n h2 h3 h4 h5 g (ps ++ [(77777, 0), (77777, 0)]) a1 a2 p1 p2 s1 s2 _›).1.out.1) (‹HeldP w n h2 h3 h4 h5 g (ps ++ [(77777, 0), (77777, 0)]) a1 a2 p1 p2 s1 s2 _›).1.out.2.2 hc hl).mono ?_; rintro e w8 ⟨rfl, hb2⟩)
        | (go_at_call 18; refine (awake_any _ (HP.out.2.1.later (‹HeldP w n h2 h3 h4 h5 g (ps ++ [(77777, 0), (77777, 0)]) a1 a2 p1 p2 s1 s2 _›).1.out.1)).mono ?_; rintro e w8 ⟨rfl, hb2⟩))
    all_goals (go_wp2; go_ret; exact ⟨rfl, (‹HeldP w n h2 h3 h4 h5 g (ps ++ [(77777, 0), (77777, 0)]) a1 a2 p1 p2 s1 s2 _›).1.out.1⟩)

end Go.Proofs.YthogncopedfmmaaDoor.Pairs
