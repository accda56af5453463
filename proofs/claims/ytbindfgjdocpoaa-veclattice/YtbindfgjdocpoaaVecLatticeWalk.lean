/-
  The walk of the law VecLattice: the greater one is the least that both are under, the lesser one the greatest that is under both.
-/
import Derived.Test.YtbindfgjdocpoaaAwake4
import Derived.Test.YtbindfgjdocpoaaVeLat
namespace Go.Proofs.Ytbindfgjdocpoaa.VecLattice
open Go.RowKit
set_option linter.unusedVariables false

/-- The answer b says whether P. -/
def Says (b : Bool) (P : Prop) : Prop := b = true ↔ P

theorem under_t {ao bo : Option Addr} {ca cb : Nat} {a b : List Int} {w0 w : World} {r : Bool} (hW : Below w0.heap.size w0 w) (ha : RowAt w0 ao a) (hb : RowAt w0 bo b) (h : Says r (Ve.Under a b)) :
    Calls Try.prog 20 #[.slice ao a.length ca, .slice bo b.length cb] w fun e w' => e = .returned (.bool r) ∧ Below w0.heap.size w0 w' :=
  (under_any ao bo ca cb a b w (ha.later hW) (hb.later hW) h).mono fun e w' ⟨he, hw, _⟩ => ⟨he, thenB hW hw⟩

theorem under_s {ao bo : Option Addr} {ca cb : Nat} {a b : List Int} {w0 w : World} {r : Bool} (hW : Below w0.heap.size w0 w) (ha : RowAt w0 ao a) (hb : RowAt w0 bo b) (h : r = true ↔ Ve.Under a b) :
    Calls Try.prog 20 #[.slice ao a.length ca, .slice bo b.length cb] w fun e w' => e = .returned (.bool r) ∧ Below w0.heap.size w0 w' := under_t hW ha hb h

theorem same_s {ao bo : Option Addr} {ca cb : Nat} {a b : List Int} {w0 w : World} {r : Bool} (hW : Below w0.heap.size w0 w) (ha : RowAt w0 ao a) (hb : RowAt w0 bo b) (hl : a.length ≤ maxLen) (h : r = true ↔ a = b) :
    Calls Try.prog 13 #[.slice ao a.length ca, .slice bo b.length cb] w fun e w' => e = .returned (.bool r) ∧ Below w0.heap.size w0 w' :=
  (same_any ao bo ca cb a b w (ha.later hW) (hb.later hW) hl h).mono fun e w' ⟨he, hw, _⟩ => ⟨he, thenB hW hw⟩

theorem true_iff_of {P : Prop} (h : P) : true = true ↔ P := ⟨fun _ => h, fun _ => rfl⟩
theorem false_iff_of {P : Prop} (h : ¬ P) : false = true ↔ P := ⟨fun e => by simp at e, fun e => absurd e h⟩

set_option maxHeartbeats 4000000 in
set_option maxRecDepth 100000 in
theorem core (ao bo co : Option Addr) (ca cb cc : Nat) (a b c : List Int) (w : World) (ha : RowAt w ao a) (hb : RowAt w bo b) (hc : RowAt w co c) (hla : a.length ≤ maxLen) :
    Calls Try.prog 4 #[.slice ao a.length ca, .slice bo b.length cb, .slice co c.length cc] w fun e w' => e = .returned (.bool true) ∧ Below w.heap.size w w' := by
  have HA : Hid (RowAt w ao a ∧ RowAt w bo b ∧ RowAt w co c ∧ a.length ≤ maxLen) := ⟨ha, hb, hc, hla⟩
  clear ha hb hc hla
  by_cases hA : Ve.Alike a b
  · have HK : Hid (Ve.Alike a b) := hA
    obtain ⟨X, hX⟩ : ∃ X, X = Ve.mk max a b := ⟨_, rfl⟩
    obtain ⟨Y, hY⟩ : ∃ Y, Y = Ve.mk min a b := ⟨_, rfl⟩
    have el := Ve.alike_length hA
    have MX : Hid (Ve.Made max a b X 0 ∧ Ve.Made max b a X 0 ∧ Ve.Made max a a a 0 ∧ Ve.Made min a b Y 0) :=
      ⟨Or.inl ⟨hA, hX, rfl⟩, Or.inl ⟨Ve.alike_symm hA, by rw [hX]; exact (Ve.mk_comm max (fun x y => by omega) el).symm, rfl⟩, Or.inl ⟨Ve.alike_self hA.1, (Ve.mk_self max (fun x => by omega) a).symm, rfl⟩, Or.inl ⟨hA, hY, rfl⟩⟩
    have UX : Hid (Ve.Under a X ∧ Ve.Under b X ∧ Ve.Under Y a ∧ Ve.Under Y b) := by
      rw [hX, hY]
      exact ⟨Ve.under_max hA, Ve.under_max2 hA, Ve.min_under hA, Ve.min_under2 hA⟩
    have UC : Hid ((Ve.Under a c → Ve.Under b c → Ve.Under X c) ∧ (Ve.Under c a → Ve.Under c b → Ve.Under c Y)) := by
      rw [hX, hY]
      exact ⟨Ve.max_least hA, Ve.min_most hA⟩
    obtain ⟨u, hu⟩ := Ve.bool_of (Ve.Under a b)
    have HU : Hid ((u = true ↔ Ve.Under a b) ∧ (u = true ↔ X = b) ∧ X.length ≤ maxLen) := by
      refine ⟨hu, by rw [hu, hX]; exact Ve.under_iff hA, ?_⟩
      rw [hX, Ve.mk_length]
      exact HA.out.2.2.2
    clear hX hY hu hA el
    have hd0 : ((0 : Int) != 0) = false := by simp
    have huu : (u == u) = true := by simp
    go_enter Try.func4, Try.ntmps4
    go_wp2_with fail
    refine (awake_any _).mono ?_
    rintro e w1 ⟨rfl, h1⟩
    go_wp2_with fail
    refine (max_any ao bo ca cb a b _ (HA.out.1.later h1) (HA.out.2.1.later h1) MX.out.1).mono ?_
    rintro e w2 ⟨xo, xc, rfl, hx, h2⟩
    have g2 := thenB h1 h2
    go_wp2_with fail
    refine (min_any ao bo ca cb a b _ (HA.out.1.later g2) (HA.out.2.1.later g2) MX.out.2.2.2).mono ?_
    rintro e w3 ⟨yo, yc, rfl, hy, h3⟩
    have g3 := thenB g2 h3
    go_wp2_with (go_at_call 14; refine (num_any _ _).mono ?_; rintro e w0 ⟨rfl, rfl⟩)
    refine (max_any bo ao cb ca b a _ (HA.out.2.1.later g3) (HA.out.1.later g3) MX.out.2.1).mono ?_
    rintro e w4 ⟨zo, zc, rfl, hz, h4⟩
    have g4 := thenB g3 h4
    go_wp2_with fail
    refine (max_any ao ao ca ca a a _ (HA.out.1.later g4) (HA.out.1.later g4) MX.out.2.2.1).mono ?_
    rintro e w5 ⟨vo, vc, rfl, hv, h5⟩
    have g5 := thenB g4 h5
    have RX : RowAt w5 xo X := hx.row.later (thenB (thenB h3 h4) h5)
    have RY : RowAt w5 yo Y := hy.row.later (thenB h4 h5)
    have RZ : RowAt w5 zo X := hz.row.later h5
    have RV : RowAt w5 vo a := hv.row
    have RA : RowAt w5 ao a := HA.out.1.later g5
    have RB : RowAt w5 bo b := HA.out.2.1.later g5
    have RC : RowAt w5 co c := HA.out.2.2.1.later g5
    have HR : Hid (RowAt w5 xo X ∧ RowAt w5 yo Y ∧ RowAt w5 zo X ∧ RowAt w5 vo a ∧ RowAt w5 ao a ∧ RowAt w5 bo b ∧ RowAt w5 co c) := ⟨RX, RY, RZ, RV, RA, RB, RC⟩
    clear hx hy hz hv h1 h2 h3 h4 h5 g2 g3 g4 RX RY RZ RV RA RB RC
    have k5 : Below w5.heap.size w5 w5 := Below.refl _ _
    go_wp2_with (go_at_call 14; refine (num_any _ _).mono ?_; rintro e w0 ⟨rfl, rfl⟩)
    refine (same_s k5 HR.out.1 HR.out.2.2.1 HU.out.2.2 (true_iff_of rfl)).mono ?_
    rintro e w6 ⟨rfl, k6⟩
    go_wp2_with fail
    refine (same_s k6 HR.out.2.2.2.1 HR.out.2.2.2.2.1 HA.out.2.2.2 (true_iff_of rfl)).mono ?_
    rintro e w7 ⟨rfl, k7⟩
    go_wp2_with fail
    refine (under_s k7 HR.out.2.2.2.2.1 HR.out.1 (true_iff_of UX.out.1)).mono ?_
    rintro e w8 ⟨rfl, k8⟩
    go_wp2_with fail
    refine (under_s k8 HR.out.2.2.2.2.2.1 HR.out.1 (true_iff_of UX.out.2.1)).mono ?_
    rintro e w9 ⟨rfl, k9⟩
    go_wp2_with fail
    refine (under_s k9 HR.out.2.1 HR.out.2.2.2.2.1 (true_iff_of UX.out.2.2.1)).mono ?_
    rintro e w10 ⟨rfl, k10⟩
    go_wp2_with fail
    refine (under_s k10 HR.out.2.1 HR.out.2.2.2.2.2.1 (true_iff_of UX.out.2.2.2)).mono ?_
    rintro e w11 ⟨rfl, k11⟩
    clear k5 k6 k7 k8 k9 k10
    obtain ⟨p1, hp1⟩ := Ve.bool_of (Ve.Under a c)
    obtain ⟨p2, hp2⟩ := Ve.bool_of (Ve.Under b c)
    obtain ⟨p3, hp3⟩ := Ve.bool_of (Ve.Under X c)
    obtain ⟨q1, hq1⟩ := Ve.bool_of (Ve.Under c a)
    obtain ⟨q2, hq2⟩ := Ve.bool_of (Ve.Under c b)
    obtain ⟨q3, hq3⟩ := Ve.bool_of (Ve.Under c Y)
    have F1 : p1 = false ∨ (p1 = true ∧ p2 = false) ∨ (p1 = true ∧ p2 = true ∧ p3 = true) := by
      have h := UC.out.1
      rw [← hp1, ← hp2, ← hp3] at h
      cases p1 <;> cases p2 <;> simp_all
    have F2 : q1 = false ∨ (q1 = true ∧ q2 = false) ∨ (q1 = true ∧ q2 = true ∧ q3 = true) := by
      have h := UC.out.2
      rw [← hq1, ← hq2, ← hq3] at h
      cases q1 <;> cases q2 <;> simp_all
    have HV : Hid (Says p1 (Ve.Under a c) ∧ Says p2 (Ve.Under b c) ∧ Says p3 (Ve.Under X c) ∧ Says q1 (Ve.Under c a) ∧ Says q2 (Ve.Under c b) ∧ Says q3 (Ve.Under c Y)) := ⟨hp1, hp2, hp3, hq1, hq2, hq3⟩
    clear hp1 hp2 hp3 hq1 hq2 hq3 UC UX MX HK
    go_wp2_with fail
    refine (under_t k11 HR.out.2.2.2.2.1 HR.out.2.2.2.2.2.2 HV.out.1).mono ?_
    rintro e w12 ⟨rfl, k12⟩
    clear k11
    rcases F1 with rfl | ⟨rfl, rfl⟩ | ⟨rfl, rfl, rfl⟩ <;> rcases F2 with rfl | ⟨rfl, rfl⟩ | ⟨rfl, rfl, rfl⟩
    all_goals
      (go_wp2_with (first
        | (go_at_call 20; with_reducible refine (under_t (by assumption) HR.out.2.2.2.2.2.1 HR.out.2.2.2.2.2.2 HV.out.2.1).mono ?_; rintro e wz ⟨rfl, kz⟩)
        | (go_at_call 20; with_reducible refine (under_t (by assumption) HR.out.1 HR.out.2.2.2.2.2.2 HV.out.2.2.1).mono ?_; rintro e wz ⟨rfl, kz⟩)
        | (go_at_call 20; with_reducible refine (under_t (by assumption) HR.out.2.2.2.2.2.2 HR.out.2.2.2.2.1 HV.out.2.2.2.1).mono ?_; rintro e wz ⟨rfl, kz⟩)
        | (go_at_call 20; with_reducible refine (under_t (by assumption) HR.out.2.2.2.2.2.2 HR.out.2.2.2.2.2.1 HV.out.2.2.2.2.1).mono ?_; rintro e wz ⟨rfl, kz⟩)
        | (go_at_call 20; with_reducible refine (under_t (by assumption) HR.out.2.2.2.2.2.2 HR.out.2.1 HV.out.2.2.2.2.2).mono ?_; rintro e wz ⟨rfl, kz⟩)
        | (go_at_call 20; with_reducible refine (under_s (by assumption) HR.out.2.2.2.2.1 HR.out.2.2.2.2.2.1 HU.out.1).mono ?_; rintro e wz ⟨rfl, kz⟩)
        | (go_at_call 13; with_reducible refine (same_s (by assumption) HR.out.1 HR.out.2.2.2.2.2.1 HU.out.2.2 HU.out.2.1).mono ?_; rintro e wz ⟨rfl, kz⟩))
       go_ret
       exact ⟨rfl, thenB g5 (by assumption)⟩)
  · have HK : Hid (Ve.Made max a b [] 400 ∧ Ve.Made min a b [] 400) := ⟨Or.inr ⟨hA, rfl, rfl⟩, Or.inr ⟨hA, rfl, rfl⟩⟩
    clear hA
    go_enter Try.func4, Try.ntmps4
    go_wp2_with fail
    refine (awake_any _).mono ?_
    rintro e w1 ⟨rfl, h1⟩
    go_wp2_with fail
    refine (max_any ao bo ca cb a b _ (HA.out.1.later h1) (HA.out.2.1.later h1) HK.out.1).mono ?_
    rintro e w2 ⟨xo, xc, rfl, hx, h2⟩
    have g2 := thenB h1 h2
    go_wp2_with fail
    refine (min_any ao bo ca cb a b _ (HA.out.1.later g2) (HA.out.2.1.later g2) HK.out.2).mono ?_
    rintro e w3 ⟨yo, yc, rfl, hy, h3⟩
    have g3 := thenB g2 h3
    go_wp2_with (go_at_call 14; refine (num_any _ _).mono ?_; rintro e w0 ⟨rfl, rfl⟩)
    go_ret
    exact ⟨rfl, g3⟩

theorem walk {H : Type} {enc : TypeId × Value → H} {base : Nat} {d0 d1 d2 : DataW H} {p0 p1 p2 : List MemPlace} (v0 v1 v2 : Value) (w : World)
    (o0 : Value.okWide Try.prog w .any base 22 v0) (h0 : DataW.Trod enc Try.prog w 0 (fun _ => true) true 22 v0 d0 p0)
    (o1 : Value.okWide Try.prog w .any base 22 v1) (h1 : DataW.Trod enc Try.prog w 0 (fun _ => true) true 22 v1 d1 p1)
    (o2 : Value.okWide Try.prog w .any base 22 v2) (h2 : DataW.Trod enc Try.prog w 0 (fun _ => true) true 22 v2 d2 p2) :
    Calls Try.prog 4 #[v0, v1, v2] w fun e w' => e = .returned (.bool true) ∧ Below w.heap.size w w' := by
  obtain ⟨a, ao, ca, rfl, la, ha, _⟩ := isInts_of o0 h0
  obtain ⟨b, bo, cb, rfl, _, hb, _⟩ := isInts_of o1 h1
  obtain ⟨c, co, cc, rfl, _, hc, _⟩ := isInts_of o2 h2
  exact core ao bo co ca cb cc a b c w ha hb hc la

end Go.Proofs.Ytbindfgjdocpoaa.VecLattice
