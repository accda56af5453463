/-
  The walk of the law Vecs: package vec answers what the document's own answers say, at any vectors; what is handed in stays.
-/
import Derived.Test.YtbindfgjdocpoaaAwake4
import Derived.Test.YtbindfgjdocpoaaRefVec
import Derived.Deep.RegionHeld3
namespace Go.Proofs.Ytbindfgjdocpoaa.Vecs
open Go.RowKit
set_option linter.unusedVariables false

/-- What the law keeps: all that lay in w1; a pair of cells of its own. -/
abbrev Held4 (w1 : World) (n : Nat) (k s : Int) (W : World) : Prop :=
  Below w1.heap.size w1 W ∧ n < w1.heap.size ∧ W.cell? ⟨n, 0, none⟩ = some (.int .i64 k) ∧ W.cell? ⟨n, 1, none⟩ = some (.int .i64 s)

theorem keep4 {w1 : World} {n : Nat} {k s : Int} {wx w2 : World} (hb : Below wx.heap.size wx w2) (h : Held4 w1 n k s wx) : Held4 w1 n k s w2 := by
  obtain ⟨h0, hn, h1, h2⟩ := h
  have hs := h0.size
  refine ⟨h0.trans (hb.mono hs), hn, ?_, ?_⟩
  · rw [hb.cell (by exact Nat.lt_of_lt_of_le hn hs)]; exact h1
  · rw [hb.cell (by exact Nat.lt_of_lt_of_le hn hs)]; exact h2

theorem drew4 {w1 : World} {n : Nat} {k s : Int} {w : World} (h : Held4 w1 n k s w) : Held4 w1 n k s w.drew := ⟨h.1.drew, h.2⟩

theorem row_head {w : World} {ao : Option Addr} {a m : List Int} (h : RowAt w ao (a ++ m)) : RowAt w ao a := fun h0 => by
  obtain ⟨b, off, h1, h2, h3⟩ := h (by simp; omega)
  refine ⟨b, off, h1, h2, fun i hi => ?_⟩
  rw [h3 i (by simp; omega)]
  simp [List.getD, List.getElem?_append_left hi]

theorem refMay_b (ao : Option Addr) (cap : Nat) (l : List Int) (n : Int) (w : World) (hr : RowAt w ao l) (hl : l.length ≤ maxLen) {b : Bool} (h : b = true ↔ Ve.May l n) :
    Calls Try.prog 17 #[.slice ao l.length cap, .int .i64 n] w fun e w' => e = .returned (.bool b) ∧ Below w.heap.size w w' :=
  (refMay_any ao cap l n w hr hl h).mono fun e w' ⟨he, hw⟩ => ⟨he, by rw [hw]; exact Below.refl _ _⟩

theorem refUnder_b (ao bo : Option Addr) (ca cb : Nat) (a b : List Int) (w : World) (ha : RowAt w ao a) (hb : RowAt w bo b) (hla : a.length ≤ maxLen) (hlb : b.length ≤ maxLen) {r : Bool} (h : r = true ↔ Ve.Under a b) :
    Calls Try.prog 21 #[.slice ao a.length ca, .slice bo b.length cb] w fun e w' => e = .returned (.bool r) ∧ Below w.heap.size w w' :=
  (refUnder_any ao bo ca cb a b w ha hb hla hlb h).mono fun e w' ⟨he, hw, _⟩ => ⟨he, hw⟩

theorem kept_b (g c : Nat) (ao : Option Addr) (ca : Nat) (a : List Int) (w : World) (ha : RowAt w ao a) (hx : RowAt w (some ⟨g, 0, none⟩) (a ++ [-7777, -8888])) (hc : a.length + 2 ≤ c) (hla : a.length * 8 ≤ 140737488351232) :
    Calls Try.prog 22 #[.slice (some ⟨g, 0, none⟩) a.length c, .slice ao a.length ca] w fun e w' => e = .returned (.bool true) ∧ Below w.heap.size w w' :=
  (kept_any g c ao ca a w ha hx hc hla).mono fun e w' ⟨he, hw, _⟩ => ⟨he, hw⟩

set_option maxHeartbeats 4000000 in
set_option maxRecDepth 100000 in
theorem core (ao bo : Option Addr) (ca cb : Nat) (a b : List Int) (k s n : Int) (w : World) (ha : RowAt w ao a) (hb : RowAt w bo b) (hla : a.length * 8 ≤ 140737488351232) (hlb : b.length * 8 ≤ 140737488351232) :
    Calls Try.prog 3 #[.slice ao a.length ca, .slice bo b.length cb, .agg #[.int .i64 k, .int .i64 s], .int .i64 n] w fun e w' => e = .returned (.bool true) ∧ Below w.heap.size w w' := by
  obtain ⟨P, np, hP⟩ := Ve.made_of max a b
  obtain ⟨R, nr, hR⟩ := Ve.made_of min a b
  obtain ⟨m, hm⟩ := Ve.bool_of (Ve.May a n)
  obtain ⟨h, hh⟩ := Ve.bool_of (Ve.Has a k s)
  obtain ⟨u, hu⟩ := Ve.bool_of (Ve.Under a b)
  have hma : a.length ≤ maxLen := by unfold maxLen; omega
  have hmb : b.length ≤ maxLen := by unfold maxLen; omega
  have hmP : P.length ≤ maxLen := by
    rcases hP with ⟨_, rfl, _⟩ | ⟨_, rfl, _⟩
    · rw [Ve.mk_length]; exact hma
    · simp
  have hmR : R.length ≤ maxLen := by
    rcases hR with ⟨_, rfl, _⟩ | ⟨_, rfl, _⟩
    · rw [Ve.mk_length]; exact hma
    · simp
  have HA : Hid (RowAt w ao a) := ha
  have HB : Hid (RowAt w bo b) := hb
  have HP : Hid (Ve.Made max a b P np) := hP
  have HR : Hid (Ve.Made min a b R nr) := hR
  have HM : Hid ((m = true ↔ Ve.May a n) ∧ (h = true ↔ Ve.Has a k s) ∧ (u = true ↔ Ve.Under a b)) := ⟨hm, hh, hu⟩
  have HL : Hid (P.length ≤ maxLen ∧ R.length ≤ maxLen ∧ a.length ≤ maxLen ∧ b.length ≤ maxLen) := ⟨hmP, hmR, hma, hmb⟩
  have HE : Hid (a.length * 8 ≤ 140737488351232 ∧ b.length * 8 ≤ 140737488351232) := ⟨hla, hlb⟩
  clear ha hb hP hR hm hh hu hmP hmR hma hmb hla hlb
  have b0 : Below w.heap.size w (w.alloc (.cells #[.int .i64 k, .int .i64 s] 24)) := below_alloc _ _
  have c0 : (w.alloc (.cells #[.int .i64 k, .int .i64 s] 24)).cell? ⟨w.heap.size, 0, none⟩ = some (.int .i64 k) := by simp [World.cell?_alloc_at]
  have c1 : (w.alloc (.cells #[.int .i64 k, .int .i64 s] 24)).cell? ⟨w.heap.size, 1, none⟩ = some (.int .i64 s) := by simp [World.cell?_alloc_at]
  have HC : Hid (Held4 (w.alloc (.cells #[.int .i64 k, .int .i64 s] 24)) w.heap.size k s (w.alloc (.cells #[.int .i64 k, .int .i64 s] 24))) := ⟨Below.refl _ _, by simp, c0, c1⟩
  clear c0 c1
  go_enter Try.func3, Try.ntmps3
  go_wp2_with fail
  refine (lend_any ao ca a _ (HA.out.later b0) HE.out.1).mono ?_
  rintro e w1 ⟨gx, cx, rfl, hx, hcx, hgx, h1⟩
  go_wp2_with fail
  refine (lend_any bo cb b _ ((HB.out.later b0).later h1) HE.out.2).mono ?_
  rintro e w2 ⟨gy, cy, rfl, hy, hcy, hgy, h2⟩
  have HX : Hid (RowAt w2 (some ⟨gx, 0, none⟩) (a ++ [-7777, -8888]) ∧ RowAt w2 (some ⟨gy, 0, none⟩) (b ++ [-7777, -8888]) ∧ a.length + 2 ≤ cx ∧ b.length + 2 ≤ cy ∧ RowAt w2 ao a ∧ RowAt w2 bo b) :=
    ⟨hx.later h2, hy, hcx, hcy, ((HA.out.later b0).later h1).later h2, ((HB.out.later b0).later h1).later h2⟩
  have HW : Hid (Below w.heap.size w w2) := thenB (thenB b0 h1) h2
  have HD : Hid (Held4 w2 w.heap.size k s w2) := by
    have h3 := keep4 h2 (keep4 h1 HC.out)
    exact ⟨Below.refl _ _, Nat.lt_of_lt_of_le (show w.heap.size < (w.alloc (.cells #[.int .i64 k, .int .i64 s] 24)).heap.size by simp) (thenB h1 h2).size, h3.2.2⟩
  clear hx hy hcx hcy hgx hgy h1 h2 b0 HC HA HB
  go_wp2_with fail
  refine (max_any (some ⟨gx, 0, none⟩) (some ⟨gy, 0, none⟩) cx cy a b _ (row_head HX.out.1) (row_head HX.out.2.1) HP.out).mono ?_
  rintro e w3 ⟨po, pc, rfl, hp, h3⟩
  go_wp2_with fail
  refine (refMax_any ao bo ca cb a b _ (HX.out.2.2.2.2.1.later h3) (HX.out.2.2.2.2.2.later h3) HL.out.2.2.1 HL.out.2.2.2 HP.out).mono ?_
  rintro e w4 ⟨qo, qc, rfl, hq, h4⟩
  have g4 : Below w2.heap.size w2 w4 := thenB h3 h4
  go_wp2_with fail
  refine (min_any (some ⟨gx, 0, none⟩) (some ⟨gy, 0, none⟩) cx cy a b _ ((row_head HX.out.1).later g4) ((row_head HX.out.2.1).later g4) HR.out).mono ?_
  rintro e w5 ⟨ro, rc, rfl, hr, h5⟩
  have g5 : Below w2.heap.size w2 w5 := thenB g4 h5
  go_wp2_with fail
  refine (refMin_any ao bo ca cb a b _ (HX.out.2.2.2.2.1.later g5) (HX.out.2.2.2.2.2.later g5) HL.out.2.2.1 HL.out.2.2.2 HR.out).mono ?_
  rintro e w6 ⟨so, sc, rfl, hs, h6⟩
  have g6 : Below w2.heap.size w2 w6 := thenB g5 h6
  have hp6 := hp.later (thenB (thenB h4 h5) h6)
  have hq6 := hq.later (thenB h5 h6)
  have hr6 := hr.later h6
  go_wp2_with fail
  refine (same_b po qo pc qc P P _ hp6.row hq6.row HL.out.1 (r := true) (by simp)).mono ?_
  rintro e w7 ⟨rfl, h7⟩
  have hd1 : (np != np) = false := by simp
  have hd2 : (nr != nr) = false := by simp
  go_wp2_with (go_at_call 14; refine (num_any _ _).mono ?_; rintro e w0 ⟨rfl, rfl⟩)
  refine (same_b ro so rc sc R R _ (hr6.row.later h7) (hs.row.later h7) HL.out.2.1 (r := true) (by simp)).mono ?_
  rintro e w8 ⟨rfl, h8⟩
  have g8 : Below w2.heap.size w2 w8 := thenB g6 (thenB h7 h8)
  have hp8 : OwnAt w2.heap.size w8 po P := hp6.later (thenB h7 h8)
  have hr8 : OwnAt w4.heap.size w8 ro R := hr6.later (thenB h7 h8)
  have hs4 := g4.size
  have hlt : ∀ g off, po = some ⟨g, off, none⟩ → 0 < P.length → g < w4.heap.size := fun g off e h0 => by
    obtain ⟨b1, off1, e1, _, hlt, _⟩ := hp h0
    rw [e1] at e
    simp only [Option.some.injEq, Addr.mk.injEq] at e
    have := h4.size
    omega
  clear hp hq hr hs hp6 hq6 hr6 h3 h4 h5 h6 h7 h8 hd1 g4 g5 g6
  go_wp2_with (go_at_call 14; refine (num_any _ _).mono ?_; rintro e w0 ⟨rfl, rfl⟩)
  refine (spoil_any w2.heap.size po pc P _ hp8 HL.out.1).mono ?_
  rintro e w9 ⟨rfl, h9, z9, d9⟩
  have hr9 : OwnAt w4.heap.size w9 ro R := by
    rcases d9 with rfl | ⟨g, off, h0, e, _, _, hbut⟩
    · exact hr8
    · exact hr8.but hbut (hlt g off e h0)
  have g9 : Below w2.heap.size w2 w9 := g8.trans h9
  clear d9 hr8 hp8 hlt h9 z9 g8
  first | go_end0 | skip
  go_wp2_with fail
  refine (spoil_any w2.heap.size ro rc R _ (hr9.mono hs4) HL.out.2.1).mono ?_
  rintro e w10 ⟨rfl, h10, z10, d10⟩
  have g10 : Held4 w2 w.heap.size k s w10 := by
    have g := g9.trans h10
    have h0 := HD.out
    refine ⟨g, h0.2.1, ?_, ?_⟩
    · rw [g.cell (by exact h0.2.1)]; exact h0.2.2.1
    · rw [g.cell (by exact h0.2.1)]; exact h0.2.2.2
  clear d10 z10 h10 hr9 g9 hs4
  have RX : ∀ W, Held4 w2 w.heap.size k s W → RowAt W (some ⟨gx, 0, none⟩) a := fun W hW => (row_head HX.out.1).later hW.1
  have RY : ∀ W, Held4 w2 w.heap.size k s W → RowAt W (some ⟨gy, 0, none⟩) b := fun W hW => (row_head HX.out.2.1).later hW.1
  have RX2 : ∀ W, Held4 w2 w.heap.size k s W → RowAt W (some ⟨gx, 0, none⟩) (a ++ [-7777, -8888]) := fun W hW => HX.out.1.later hW.1
  have RY2 : ∀ W, Held4 w2 w.heap.size k s W → RowAt W (some ⟨gy, 0, none⟩) (b ++ [-7777, -8888]) := fun W hW => HX.out.2.1.later hW.1
  have RA : ∀ W, Held4 w2 w.heap.size k s W → RowAt W ao a := fun W hW => HX.out.2.2.2.2.1.later hW.1
  have RB : ∀ W, Held4 w2 w.heap.size k s W → RowAt W bo b := fun W hW => HX.out.2.2.2.2.2.later hW.1
  first | go_end0 | skip
  go_wp2_with fail
  go_region_held3 (Held4 w2 w.heap.size k s) (first | exact keep4 hb2 (by assumption) | exact drew4 g10)
    (first
      | (go_at_call 16; refine (may_b _ cx a n _ (RX _ (by assumption)) HM.out.1).mono ?_; rintro e wz ⟨rfl, hb2⟩)
      | (go_at_call 17; refine (refMay_b _ ca a n _ (RA _ (by assumption)) HL.out.2.2.1 HM.out.1).mono ?_; rintro e wz ⟨rfl, hb2⟩)
      | (go_at_call 18; refine (has_any _ cx a k s _ (RX _ (by assumption)) HM.out.2.1).mono ?_; rintro e wz ⟨rfl, hb2⟩)
      | (go_at_call 19; refine (refHas_any _ ca a k s _ (RA _ (by assumption)) HM.out.2.1).mono ?_; rintro e wz ⟨rfl, hb2⟩)
      | (go_at_call 20; refine (under_b _ _ cx cy a b _ (RX _ (by assumption)) (RY _ (by assumption)) HM.out.2.2).mono ?_; rintro e wz ⟨rfl, hb2⟩)
      | (go_at_call 21; refine (refUnder_b _ _ ca cb a b _ (RA _ (by assumption)) (RB _ (by assumption)) HL.out.2.2.1 HL.out.2.2.2 HM.out.2.2).mono ?_; rintro e wz ⟨rfl, hb2⟩)
      | (go_at_call 22; with_reducible refine (kept_b gx cx ao ca a _ (RA _ (by assumption)) (RX2 _ (by assumption)) HX.out.2.2.1 HE.out.1).mono ?_; rintro e wz ⟨rfl, hb2⟩)
      | (go_at_call 22; with_reducible refine (kept_b gy cy bo cb b _ (RB _ (by assumption)) (RY2 _ (by assumption)) HX.out.2.2.2.1 HE.out.2).mono ?_; rintro e wz ⟨rfl, hb2⟩)
      | (go_at_call 23; refine (awake_any _).mono ?_; rintro e wz ⟨rfl, hb2⟩))
  all_goals (go_wp2; go_ret; exact ⟨rfl, HW.out.trans ((‹Held4 w2 w.heap.size k s _›).1.mono HW.out.size)⟩)

theorem walk {H : Type} {enc : TypeId × Value → H} {base : Nat} {d0 d1 d2 : DataW H} {p0 p1 p2 : List MemPlace} (v0 v1 v2 : Value) (n : Int) (w : World)
    (o0 : Value.okWide Try.prog w .any base 22 v0) (h0 : DataW.Trod enc Try.prog w 0 (fun _ => true) true 22 v0 d0 p0) (z0 : ∀ es sp, d0 = .slice es sp → (es.length + sp.length) * Try.prog.bytesOf 3 ≤ reachBytes)
    (o1 : Value.okWide Try.prog w .any base 22 v1) (h1 : DataW.Trod enc Try.prog w 0 (fun _ => true) true 22 v1 d1 p1) (z1 : ∀ es sp, d1 = .slice es sp → (es.length + sp.length) * Try.prog.bytesOf 3 ≤ reachBytes)
    (o2 : Value.okWide Try.prog w .any base 24 v2) (h2 : DataW.Trod enc Try.prog w 0 (fun _ => true) true 24 v2 d2 p2) (hn : (Lit.int .i64 n).wf = true) :
    Calls Try.prog 3 #[v0, v1, v2, .int .i64 n] w fun e w' => e = .returned (.bool true) ∧ Below w.heap.size w w' := by
  have eb : Try.prog.bytesOf 3 = 8 := by kernel_rfl
  rw [eb] at z0 z1
  obtain ⟨a, ao, ca, rfl, _, ha, ka⟩ := isInts_of o0 h0
  obtain ⟨b, bo, cb, rfl, _, hb, kb⟩ := isInts_of o1 h1
  obtain ⟨k, s, rfl, _, _⟩ := open_two Try.underlying24 (by kernel_rfl) rfl rfl (by kernel_rfl) (by kernel_rfl) Try.underlying3 Try.underlying3 o2 h2
  exact core ao bo ca cb a b k s n w ha hb (ka _ z0) (kb _ z1)

end Go.Proofs.Ytbindfgjdocpoaa.Vecs
