/-
  the document's Erase: the answer's Seen lies apart.
-/
import Derived.Test.YtgkddimijmnpcaaGreatDoorZPack4
import Derived.Test.YtgkddimijmnpcaaGreatDoorZRefPutA12
import Derived.Test.YtgkddimijmnpcaaGreatDoorZRefInsA12
import Derived.Test.YtgkddimijmnpcaaGreatDoorZCeRef
import Derived.Test.YtgkddimijmnpcaaGreatDoorZPack3
import Derived.Test.YtgkddimijmnpcaaGreatDoorZOpWords11
import Derived.Test.YtgkddimijmnpcaaGreatDoorZWhatA11
import Derived.Test.YtgkddimijmnpcaaGreatDoorZWhatB11
import Derived.Deep.Cut
import Derived.Deep.CutRange
import Derived.Test.YtgkddimijmnpcaaGreatDoorZPack1
import Derived.Test.YtgkddimijmnpcaaGreatDoorZPack2
namespace Go.Proofs.YtgkddimijmnpcaaGreatDoor
open Go.RowKit Go.Shelf
set_option linter.unusedVariables false
set_option linter.unusedSimpArgs false

theorem CpE.markA {w W : World} {h g : Nat} {c : Ce} {q : Pl} (F : CpE w h g c q W) {k : Nat} (hk : k < c.elems.length) :
    AftEA w h h c q (c.elems.modify k markX) ((W.setCell ⟨g, k * 5 + 4, none⟩ (.bool true)).setCell ⟨g, k * 5 + 3, none⟩ (.string ByteArray.empty)) := by
  have hg := F.hg
  have h0 : 0 < (flatL c.elems).length := by rw [flatL_len]; omega
  refine ⟨(F.b.setCell (p := ⟨g, k * 5 + 4, none⟩) (by show h ≤ g; omega) _).setCell (p := ⟨g, k * 5 + 3, none⟩) (by show h ≤ g; omega) _, (F.a.other (by omega) _ _).other (by omega) _ _, ?_, ⟨?_, ?_, ?_⟩, ?_⟩
  · have := (F.c0.other (k := g) (by omega) (k * 5 + 4) (.bool true)).other (k := g) (by omega) (k * 5 + 3) (.string ByteArray.empty)
    show Has _ h [_, _, _, _, _, _, _, _, .slice q.lo (c.elems.modify k markX).length q.lc, _]
    rw [List.length_modify]
    exact this
  · exact fown_two F.ow.1 (fun b hb h1 => F.a1 h0 h1 b g hb F.bk) _ _ _ _
  · have := F.ow.2.1
    rw [F.bk] at this
    have := fown_mark this hk
    rw [← F.bk] at this
    exact this
  · exact fown_two F.ow.2.2 (fun b hb h1 => F.a2 h0 h1 b g hb F.bk) _ _ _ _
  · intro g' hg' _ hs hl
    have hs' : 0 < (flatI c.seen).length := by rw [flatI_len]; have : 0 < c.seen.length := hs; omega
    exact F.a2 h0 hs' g' g' hg' hl rfl

set_option maxHeartbeats 2000000 in
set_option maxRecDepth 100000 in
/-- The document's Erase takes it. -/
theorem rera_yesA (c : Ce) (p : Pl) (d : D2) (k : Nat) (w : World) (hr : CRow w c p) (hf : Fit c) (hk : (c.kind != 3) = false) (ha : atD c.elems d = some k) :
    Calls Tryz.prog 76 #[ceV c p, dv d] w fun e w' => ∃ q, e = .returned (.tuple #[ceV (cL c (c.elems.modify k markX)) q, .int .i64 0]) ∧ COwnL w.heap.size w' (cL c (c.elems.modify k markX)) q ∧ Below w.heap.size w w' := by
  have H0 : Hid (Set3 w w.heap.size c p d.1 d.2 (((w.alloc (.cells (ceL c p).toArray 30)).alloc (.cells #[.int .i64 d.1, .int .i64 d.2] 32)).alloc (.cells (ceL ce0 pl0).toArray 30))) := set3_new _ _ _ _ _ _ _ _
  have hlen : c.elems.length * 48 ≤ 140737488351232 := hf.2.1
  have hkl := atD_lt ha
  obtain ⟨h, hh⟩ : ∃ h, w.heap.size = h := ⟨_, rfl⟩
  rw [hh] at H0 ⊢
  have C := rplace_any c p d _ (hr.later (hh.symm ▸ H0.out.1)) hf
  rw [numD_some ha] at C
  have HR : Hid (CRow w c p ∧ Fit c ∧ w.heap.size = h) := ⟨hr, hf, hh⟩
  obtain ⟨L, hL⟩ : ∃ L, c.elems.modify k markX = L := ⟨_, rfl⟩
  rw [hL]
  have HL : Hid (c.elems.modify k markX = L ∧ L.length = c.elems.length) := ⟨hL, hL ▸ List.length_modify ..⟩
  clear hr hf ha hL
  go_enter Tryz.func76, Tryz.ntmps76
  go_wp2_with fail
  refine C.mono ?_
  rintro e w2 ⟨rfl, b1⟩
  have H2 : Hid (Set3 w h c p d.1 d.2 w2) := H0.out.later b1
  clear b1 H0 C
  obtain ⟨B, hB⟩ : ∃ B, w2.heap.size = B := ⟨_, rfl⟩
  have hB3 : h + 3 ≤ B := by have := H2.out.size; omega
  obtain ⟨t0, t1, t2, t3, t4, t5, t6, t7, t8, t9⟩ := H2.out.2.1.ten
  have hkn : decide ((k : Int) < 0) = false := by simp
  go_wp2_with fail
  refine (rcopyP_any c p _ (HR.out.1.later (HR.out.2.2.symm ▸ H2.out.1)) HR.out.2.1).mono ?_
  rintro e w3 ⟨q, rfl, P3, b3⟩
  rw [hB] at P3 b3
  obtain ⟨g, hg⟩ : ∃ g, q.lo = some ⟨g, 0, none⟩ := by
    obtain ⟨b, e, _⟩ := P3.1.2.1 (by rw [flatL_len]; omega)
    exact ⟨b, e⟩
  have hgb : B ≤ g := (fown_lt P3.1.2.1 (by rw [flatL_len]; omega) hg).1
  have HF : Hid (CpE w h g c q (put10 w3 h (.int .i64 c.kind) (.bool c.set) (.int .i64 c.time) (.int .i64 c.node) (.string c.val) (.int .i64 c.re) (.int .i64 c.im) (.slice q.eo c.ents.length q.ec) (.slice q.lo c.elems.length q.lc) (.slice q.so c.seen.length q.sc))) := by
    have S := H2.out.later (hB.symm ▸ b3)
    refine ⟨below_put10 S.1 (Nat.le_refl _) _ _ _ _ _ _ _ _ _ _, S.2.1.put10 _ _ _ _ _ _ _ _ _ _, ?_, (P3.1.put10 (by omega) _ _ _ _ _ _ _ _ _ _).mono hB3, P3.2.1, P3.2.2, hg, by omega⟩
    repeat apply Has.other (hk := by omega)
    exact S.2.2.2
  have H3 : Hid (Set3 w h c p d.1 d.2 w3) := H2.out.later (hB.symm ▸ b3)
  clear P3 b3 t0 t1 t2 t3 t4 t5 t6 t7 t8 t9 H2 hg
  obtain ⟨t0, t1, t2, t3, t4, t5, t6, t7, t8, t9⟩ := H3.out.2.1.ten
  obtain ⟨f0, f1, f2, f3, f4, f5, f6, f7, f8, f9⟩ := H3.out.2.1.tenf
  clear H3
  go_upto_region 7 with fail
  clear t0 t1 t2 t3 t4 t5 t6 t7 t8 t9 f0 f1 f2 f3 f4 f5 f6 f7 f8 f9
  dsimp only [put10] at HF
  generalize hW : World.setCell _ (⟨h, 9, none⟩ : Addr) _ = w5 at HF ⊢
  clear hW hB
  have t8 := HF.out.c0.at 8 rfl
  rw [HF.out.bk] at t8
  have ow := HF.out.ow.2.1
  rw [HF.out.bk] at ow
  obtain ⟨g', eg, _, _, hc⟩ := ow (by rw [flatL_len]; omega)
  simp only [Option.some.injEq, Addr.mk.injEq, and_true] at eg
  subst eg
  obtain ⟨x, hx⟩ : ∃ x, c.elems[k]? = some x := ⟨_, List.getElem?_eq_getElem hkl⟩
  obtain ⟨_, _, _, g3, g4⟩ := flatL_at c.elems k hx
  have c3 := (hc _ _ g3).1
  have c4 := (hc _ _ g4).1
  have f3 := (hc _ _ g3).2
  have f4 := (hc _ _ g4).2
  have hkl2 : (k : Int) < (c.elems.length : Int) := by omega
  have hgk : g ≠ h := by omega
  have HM : Hid (AftEA w h h c q L ((w5.setCell ⟨g, k * 5 + 4, none⟩ (.bool true)).setCell ⟨g, k * 5 + 3, none⟩ (.string ⟨#[]⟩))) := HL.out.1 ▸ HF.out.markA hkl
  clear ow hx g3 g4 hc
  go_upto_region 9 with fail
  generalize hW : (w5.setCell ⟨g, k * 5 + 4, none⟩ (.bool true)).setCell ⟨g, k * 5 + 3, none⟩ (.string ⟨#[]⟩) = w8 at HM ⊢
  clear hW HF t8 c3 c4 f3 f4
  obtain ⟨t0, t1, t2, t3, t4, t5, t6, t7, t8, t9⟩ := HM.out.2.2.1.ten
  obtain ⟨s0, s1, s2, s3, s4, s5, s6, s7, s8, s9⟩ := HM.out.2.1.ten
  obtain ⟨z0, z1, z2, z3, z4, z5, z6, z7, z8, z9⟩ := HM.out.2.1.tenf
  go_wp2_with fail
  exact rendA (d := cL c L) (a := h + 2) (B := h + 3) (r := 4) HM.out.1 HM.out.2.1 HM.out.2.2.2 (by omega) (by omega) rfl rfl rfl rfl

end Go.Proofs.YtgkddimijmnpcaaGreatDoor

/-
  The six changes and the document's, at whatever comes: the answer's Seen lies apart from its other list.
-/
namespace Go.Proofs.YtgkddimijmnpcaaGreatDoor
open Go.RowKit Go.Shelf
set_option linter.unusedVariables false
set_option linter.unusedSimpArgs false

/-- A cell has the list of its Kind alone. -/
def Lone (c : Ce) : Prop := (c.kind = 2 ∨ c.ents = []) ∧ (c.kind = 3 ∨ c.elems = [])
/-- The rows are a call's own, and Seen lies apart. -/
def COwnZ (B : Nat) (w : World) (c : Ce) (p : Pl) : Prop := COwn B w c p ∧ SEo p c ∧ SLo p c
theorem COwnZ.mono {B C : Nat} {w : World} {c : Ce} {p : Pl} (h : COwnZ B w c p) (hC : C ≤ B) : COwnZ C w c p := ⟨h.1.mono hC, h.2⟩
theorem COwnZ.put10 {B a : Nat} {w : World} {c : Ce} {p : Pl} (h : COwnZ B w c p) (ha : a < B) (v0 v1 v2 v3 v4 v5 v6 v7 v8 v9 : Value) : COwnZ B (put10 w a v0 v1 v2 v3 v4 v5 v6 v7 v8 v9) c p := ⟨COwn.put10 h.1 ha v0 v1 v2 v3 v4 v5 v6 v7 v8 v9, h.2⟩
theorem se_nil {p : Pl} {c : Ce} (h : c.ents = []) : SEo p c := fun g _ h0 => by rw [h] at h0; simp at h0
theorem sl_nil {p : Pl} {c : Ce} (h : c.elems = []) : SLo p c := fun g _ h0 => by rw [h] at h0; simp at h0
theorem own_noneZ (B : Nat) (w : World) : COwnZ B w ce0 pl0 := ⟨own_none0 B w, se_nil rfl, sl_nil rfl⟩

theorem setC_e (c : Ce) (t n : Int) (v : ByteArray) : (setC c t n v).ents = c.ents := by unfold setC; split <;> rfl
theorem setC_l (c : Ce) (t n : Int) (v : ByteArray) : (setC c t n v).elems = c.elems := by unfold setC; split <;> rfl
theorem lset_Z (c : Ce) (p : Pl) (t n : Int) (v : ByteArray) (w : World) (hr : CRow w c p) (hf : Fit c) (hv : v.size ≤ maxLen) (he : c.ents = []) (hl : c.elems = []) :
    Calls Tryz.prog 55 #[ceV c p, .agg #[.int .i64 t, .int .i64 n], .string v] w fun e w' => ∃ q, e = .returned (.tuple #[ceV (if setB c t n v then (setC c t n v, (0 : Int)) else (ce0, 700)).1 q, .int .i64 (if setB c t n v then (setC c t n v, (0 : Int)) else (ce0, 700)).2]) ∧ COwnZ w.heap.size w' (if setB c t n v then (setC c t n v, (0 : Int)) else (ce0, 700)).1 q ∧ Below w.heap.size w w' := by
  cases hb : setB c t n v with
  | true =>
    refine (lset_yes c p t n v w hr hf hb).mono ?_
    rintro e w1 ⟨q, he', o, _, b⟩
    exact ⟨q, he', ⟨o, se_nil ((setC_e c t n v).trans he), sl_nil ((setC_l c t n v).trans hl)⟩, b⟩
  | false =>
    refine (lset_no c p t n v w hb hv).mono ?_
    rintro e w1 ⟨he', b⟩
    exact ⟨pl0, he', own_noneZ _ _, b⟩
theorem rset_Z (c : Ce) (p : Pl) (t n : Int) (v : ByteArray) (w : World) (hr : CRow w c p) (hf : Fit c) (hv : v.size ≤ maxLen) (he : c.ents = []) (hl : c.elems = []) :
    Calls Tryz.prog 71 #[ceV c p, .agg #[.int .i64 t, .int .i64 n], .string v] w fun e w' => ∃ q, e = .returned (.tuple #[ceV (if setB c t n v then (setC c t n v, (0 : Int)) else (ce0, 700)).1 q, .int .i64 (if setB c t n v then (setC c t n v, (0 : Int)) else (ce0, 700)).2]) ∧ COwnZ w.heap.size w' (if setB c t n v then (setC c t n v, (0 : Int)) else (ce0, 700)).1 q ∧ Below w.heap.size w w' := by
  cases hb : setB c t n v with
  | true =>
    refine (rset_yes c p t n v w hr hf hb).mono ?_
    rintro e w1 ⟨q, he', o, b⟩
    exact ⟨q, he', ⟨o, se_nil ((setC_e c t n v).trans he), sl_nil ((setC_l c t n v).trans hl)⟩, b⟩
  | false =>
    refine (rset_no c p t n v w hb hv).mono ?_
    rintro e w1 ⟨he', b⟩
    exact ⟨pl0, he', own_noneZ _ _, b⟩
theorem ansN_nil {c : Ce} {x y : Int} (he : c.ents = []) (hl : c.elems = []) : (ansN c x y).ents = [] ∧ (ansN c x y).elems = [] := by
  unfold ansN
  split
  · exact ⟨he, hl⟩
  · exact ⟨rfl, rfl⟩
theorem cadd_Z (c : Ce) (p : Pl) (x y : Int) (w : World) (hr : CRow w c p) (hf : Fit c) (he : c.ents = []) (hl : c.elems = []) :
    Calls Tryz.prog 57 #[ceV c p, pv x y] w fun e w' => ∃ q, e = .returned (.tuple #[ceV (ansN c x y) q, .int .i64 (ansM c x y)]) ∧ COwnZ w.heap.size w' (ansN c x y) q ∧ Below w.heap.size w w' := by
  refine (cadd_all c p x y w hr hf).mono ?_
  rintro e w1 ⟨q, h1, o, b⟩
  exact ⟨q, h1, ⟨o, se_nil (ansN_nil he hl).1, sl_nil (ansN_nil he hl).2⟩, b⟩
theorem rcount_Z (c : Ce) (p : Pl) (x y : Int) (w : World) (hr : CRow w c p) (hf : Fit c) (he : c.ents = []) (hl : c.elems = []) :
    Calls Tryz.prog 72 #[ceV c p, pv x y] w fun e w' => ∃ q, e = .returned (.tuple #[ceV (ansN c x y) q, .int .i64 (ansM c x y)]) ∧ COwnZ w.heap.size w' (ansN c x y) q ∧ Below w.heap.size w w' := by
  refine (rcount_all c p x y w hr hf).mono ?_
  rintro e w1 ⟨q, h1, o, b⟩
  exact ⟨q, h1, ⟨o, se_nil (ansN_nil he hl).1, sl_nil (ansN_nil he hl).2⟩, b⟩
theorem put_Z (c : Ce) (p : Pl) (d : D2) (v : ByteArray) (w : World) (hr : CRow w c p) (hf : Fit c) (hv : v.size ≤ maxLen) (hl : c.elems = []) :
    Calls Tryz.prog 59 #[ceV c p, dv d, .string v] w fun e w' => ∃ q, e = .returned (.tuple #[ceV (ansP c d v) q, .int .i64 (numP c d v)]) ∧ COwnZ w.heap.size w' (ansP c d v) q ∧ Below w.heap.size w w' := by
  unfold ansP numP
  cases hb : putB c d v with
  | true =>
    refine (put_yesA c p d v w hr hf hb).mono ?_
    rintro e w1 ⟨q, h1, o, b⟩
    exact ⟨q, h1, ⟨o.1, o.2, sl_nil hl⟩, b⟩
  | false =>
    refine (put_no c p d v w hr hf hv hb).mono ?_
    rintro e w1 ⟨he, b⟩
    exact ⟨pl0, he, own_noneZ _ _, b⟩
theorem rput_Z (c : Ce) (p : Pl) (d : D2) (v : ByteArray) (w : World) (hr : CRow w c p) (hf : Fit c) (hcap : c.ents.length ≤ p.ec) (hv : v.size ≤ maxLen) (hl : c.elems = []) :
    Calls Tryz.prog 73 #[ceV c p, dv d, .string v] w fun e w' => ∃ q, e = .returned (.tuple #[ceV (ansP c d v) q, .int .i64 (numP c d v)]) ∧ COwnZ w.heap.size w' (ansP c d v) q ∧ Below w.heap.size w w' := by
  cases h1 : (decide (c.kind = 2) && (mayB d.1 d.2 16 && decide (v.size ≤ 256))) with
  | false =>
    have hb : putB c d v = false := by
      unfold putB
      revert h1
      cases decide (c.kind = 2) <;> cases mayB d.1 d.2 16 <;> cases decide (v.size ≤ 256) <;> simp
    refine (rput_no c p d v w hv h1).mono ?_
    rintro e w1 ⟨he, b⟩
    unfold ansP numP
    rw [hb]
    exact ⟨pl0, he, own_noneZ _ _, b⟩
  | true =>
    simp only [Bool.and_eq_true, decide_eq_true_eq] at h1
    obtain ⟨hk, hm, hs⟩ := h1
    have hb : putB c d v = !hasD c.ents d := by simp [putB, hk, hm, hs]
    refine (rput_anyA c p d v w hr hf hcap hs hm (by simpa using hk)).mono ?_
    unfold ansP numP
    rintro e w1 (⟨hh, he, b⟩ | ⟨hh, q, he, o, b⟩)
    · rw [hb, hh]
      exact ⟨pl0, he, own_noneZ _ _, b⟩
    · rw [hb, hh]
      exact ⟨q, he, ⟨o.1, o.2, sl_nil hl⟩, b⟩
theorem drop_Z (c : Ce) (p : Pl) (ao : Option Addr) (ca : Nat) (ds : List D2) (w : World) (hr : CRow w c p) (hf : Fit c) (hds : FRow w ao (flatD ds)) (hn : ds.length * 16 ≤ 140737488355328) (hl : c.elems = []) :
    Calls Tryz.prog 61 #[ceV c p, .slice ao ds.length ca] w fun e w' => ∃ q, e = .returned (.tuple #[ceV (ansQ c ds) q, .int .i64 (numQ c)]) ∧ COwnZ w.heap.size w' (ansQ c ds) q ∧ Below w.heap.size w w' := by
  unfold ansQ numQ
  by_cases hk : c.kind = 2
  · rw [decide_eq_true hk]
    refine (drop_yesA c p ao ca ds w hr hf hds hn (by simpa using hk)).mono ?_
    rintro e w1 ⟨q, h1, o, b⟩
    exact ⟨q, h1, ⟨o.1, o.2, sl_nil hl⟩, b⟩
  · rw [decide_eq_false hk]
    refine (drop_no c p _ w (by simpa using hk)).mono ?_
    rintro e w1 ⟨he, b⟩
    exact ⟨pl0, he, own_noneZ _ _, b⟩
theorem rdrop_Z (c : Ce) (p : Pl) (ao : Option Addr) (ca : Nat) (ds : List D2) (w : World) (hr : CRow w c p) (hf : Fit c) (hds : FRow w ao (flatD ds)) (hn : ds.length * 16 ≤ 140737488355328) (hl : c.elems = []) :
    Calls Tryz.prog 74 #[ceV c p, .slice ao ds.length ca] w fun e w' => ∃ q, e = .returned (.tuple #[ceV (ansQ c ds) q, .int .i64 (numQ c)]) ∧ COwnZ w.heap.size w' (ansQ c ds) q ∧ Below w.heap.size w w' := by
  unfold ansQ numQ
  by_cases hk : c.kind = 2
  · rw [decide_eq_true hk]
    refine (rdrop_yesA c p ao ca ds w hr hf hds hn (by simpa using hk)).mono ?_
    rintro e w1 ⟨q, h1, o, b⟩
    exact ⟨q, h1, ⟨o.1, o.2, sl_nil hl⟩, b⟩
  · rw [decide_eq_false hk]
    refine (rdrop_no c p _ w (by simpa using hk)).mono ?_
    rintro e w1 ⟨he, b⟩
    exact ⟨pl0, he, own_noneZ _ _, b⟩
theorem ins_Z (c : Ce) (p : Pl) (e : L5) (d : D2) (w : World) (hr : CRow w c p) (hf : Fit c) (hv : e.val.size ≤ maxLen) (hz : c.ents = []) :
    Calls Tryz.prog 63 #[ceV c p, lv e, dv d] w fun r w' => ∃ q, r = .returned (.tuple #[ceV (ansI c e d).1 q, .int .i64 (ansI c e d).2]) ∧ COwnZ w.heap.size w' (ansI c e d).1 q ∧ Below w.heap.size w w' := by
  unfold ansI
  by_cases hb : (decide (c.kind = 3) && okX c.elems e) = true
  · rw [if_pos hb]
    simp only [Bool.and_eq_true, decide_eq_true_eq] at hb
    cases hi : insL c.elems e d with
    | some L =>
      refine (ins_yesA c p e d L w hr hf hb.1 hb.2 hi).mono ?_
      rintro r w1 ⟨q, h1, o, b⟩
      exact ⟨q, h1, ⟨o.1, se_nil hz, o.2⟩, b⟩
    | none =>
      refine (ins_range c p e d w hr hf hb.1 hb.2 (insL_none.1 hi)).mono ?_
      rintro r w1 ⟨he, b⟩
      exact ⟨pl0, he, own_noneZ _ _, b⟩
  · rw [if_neg hb]
    refine (ins_no c p e d w hr hf hv (by simpa using hb)).mono ?_
    rintro r w1 ⟨he, b⟩
    exact ⟨pl0, he, own_noneZ _ _, b⟩
theorem rins_Z (c : Ce) (p : Pl) (e : L5) (d : D2) (w : World) (hr : CRow w c p) (hf : Fit c) (hcap : c.elems.length ≤ p.lc) (hv : e.val.size ≤ maxLen) (hz : c.ents = []) :
    Calls Tryz.prog 75 #[ceV c p, lv e, dv d] w fun r w' => ∃ q, r = .returned (.tuple #[ceV (ansI c e d).1 q, .int .i64 (ansI c e d).2]) ∧ COwnZ w.heap.size w' (ansI c e d).1 q ∧ Below w.heap.size w w' := by
  unfold ansI
  by_cases hb : (decide (c.kind = 3) && okX c.elems e) = true
  · rw [if_pos hb]
    simp only [Bool.and_eq_true, decide_eq_true_eq] at hb
    cases hi : insL c.elems e d with
    | some L =>
      refine (rins_yesA c p e d L w hr hf hcap hb.1 hb.2 hi).mono ?_
      rintro r w1 ⟨q, h1, o, b⟩
      exact ⟨q, h1, ⟨o.1, se_nil hz, o.2⟩, b⟩
    | none =>
      refine (rins_range c p e d w hr hf hb.1 hb.2 (insL_none.1 hi)).mono ?_
      rintro r w1 ⟨he, b⟩
      exact ⟨pl0, he, own_noneZ _ _, b⟩
  · rw [if_neg hb]
    refine (rins_no c p e d w hr hf hv (by simpa using hb)).mono ?_
    rintro r w1 ⟨he, b⟩
    exact ⟨pl0, he, own_noneZ _ _, b⟩
theorem era_Z (c : Ce) (p : Pl) (d : D2) (w : World) (hr : CRow w c p) (hf : Fit c) (hz : c.ents = []) :
    Calls Tryz.prog 65 #[ceV c p, dv d] w fun r w' => ∃ q, r = .returned (.tuple #[ceV (ansR c d).1 q, .int .i64 (ansR c d).2]) ∧ COwnZ w.heap.size w' (ansR c d).1 q ∧ Below w.heap.size w w' := by
  unfold ansR
  by_cases hk : c.kind = 3
  · rw [if_pos hk]
    have hk1 : (c.kind != 3) = false := by simpa using hk
    unfold eraL
    cases ha : atD c.elems d with
    | some k =>
      refine (era_yesA c p d k w hr hf hk1 ha).mono ?_
      rintro r w1 ⟨q, h1, o, b⟩
      exact ⟨q, h1, ⟨o.1, se_nil hz, o.2⟩, b⟩
    | none =>
      refine (era_range c p d w hr hf hk1 ha).mono ?_
      rintro r w1 ⟨he, b⟩
      exact ⟨pl0, he, own_noneZ _ _, b⟩
  · rw [if_neg hk]
    refine (era_no c p d w (by simpa using hk)).mono ?_
    rintro r w1 ⟨he, b⟩
    exact ⟨pl0, he, own_noneZ _ _, b⟩
theorem rera_Z (c : Ce) (p : Pl) (d : D2) (w : World) (hr : CRow w c p) (hf : Fit c) (hz : c.ents = []) :
    Calls Tryz.prog 76 #[ceV c p, dv d] w fun r w' => ∃ q, r = .returned (.tuple #[ceV (ansR c d).1 q, .int .i64 (ansR c d).2]) ∧ COwnZ w.heap.size w' (ansR c d).1 q ∧ Below w.heap.size w w' := by
  unfold ansR
  by_cases hk : c.kind = 3
  · rw [if_pos hk]
    have hk1 : (c.kind != 3) = false := by simpa using hk
    unfold eraL
    cases ha : atD c.elems d with
    | some k =>
      refine (rera_yesA c p d k w hr hf hk1 ha).mono ?_
      rintro r w1 ⟨q, h1, o, b⟩
      exact ⟨q, h1, ⟨o.1, se_nil hz, o.2⟩, b⟩
    | none =>
      refine (rera_range c p d w hr hf hk1 ha).mono ?_
      rintro r w1 ⟨he, b⟩
      exact ⟨pl0, he, own_noneZ _ _, b⟩
  · rw [if_neg hk]
    refine (rera_no c p d w (by simpa using hk)).mono ?_
    rintro r w1 ⟨he, b⟩
    exact ⟨pl0, he, own_noneZ _ _, b⟩

end Go.Proofs.YtgkddimijmnpcaaGreatDoor

/-
  Package cell's changes: what each Kind of operation does to a cell, by contracts.
-/
namespace Go.Proofs.YtgkddimijmnpcaaGreatDoor
open Go.RowKit Go.Shelf
set_option linter.unusedVariables false
set_option linter.unusedSimpArgs false

/-- The cell, the operation, room for the answer: blocks h, h + 1, h + 2. -/
structure Eff3 (w : World) (h : Nat) (c : Ce) (p : Pl) (o : O14) (q : Pq) (W : World) : Prop where
  base : Below h w W
  cell : Has W h (ceL c p)
  op : Has W (h + 1) (oL o q)
  res : Has W (h + 2) (ceL ce0 pl0)
  cr : CRow W c p
  orw : ORow W o q
theorem Eff3.dots {w W : World} {h : Nat} {c : Ce} {p : Pl} {o : O14} {q : Pq} (H : Eff3 w h c p o q W) : FRow W q.qo (flatD o.dots) := H.orw.2
theorem eff3_new {w : World} {h : Nat} (hh : w.heap.size = h) {c : Ce} {p : Pl} {o : O14} {q : Pq} (hr : CRow w c p) (ho : ORow w o q) :
    Eff3 w h c p o q (((w.alloc (.cells (ceL c p).toArray 30)).alloc (.cells (oL o q).toArray 35)).alloc (.cells #[.int .i64 0, .bool false, .int .i64 0, .int .i64 0, .string ⟨#[]⟩, .int .i64 0, .int .i64 0, .slice none 0 0, .slice none 0 0, .slice none 0 0] 30)) := by
  subst hh
  have b1 : Below w.heap.size w (w.alloc (.cells (ceL c p).toArray 30)) := (Below.refl _ _).alloc (Nat.le_refl _) _
  have b2 := b1.alloc (by simp) (.cells (oL o q).toArray 35)
  have b3 := b2.alloc (by simp; omega) (.cells #[.int .i64 0, .bool false, .int .i64 0, .int .i64 0, .string ⟨#[]⟩, .int .i64 0, .int .i64 0, .slice none 0 0, .slice none 0 0, .slice none 0 0] 30)
  refine ⟨b3, ((has_new _ _ _).alloc _).alloc _, ?_, ?_, hr.later b3, ho.later b3⟩
  · have := (has_new (w.alloc (.cells (ceL c p).toArray 30)) (oL o q) 35).alloc (.cells #[.int .i64 0, .bool false, .int .i64 0, .int .i64 0, .string ⟨#[]⟩, .int .i64 0, .int .i64 0, .slice none 0 0, .slice none 0 0, .slice none 0 0] 30)
    simpa using this
  · have := has_new ((w.alloc (.cells (ceL c p).toArray 30)).alloc (.cells (oL o q).toArray 35)) (ceL ce0 pl0) 30
    have e : ((w.alloc (.cells (ceL c p).toArray 30)).alloc (.cells (oL o q).toArray 35)).heap.size = w.heap.size + 2 := by simp
    rw [e] at this
    exact this

set_option maxHeartbeats 4000000 in
set_option maxRecDepth 100000 in
theorem chg_0 (c : Ce) (p : Pl) (dn ds time : Int) (deps : List Int) (ty idd field value : ByteArray) (re im rn rs : Int) (dots : List D2) (q : Pq) (w : World) (hr : CRow w c p) (hf : Fit c) (ho : ORow w ⟨dn, ds, time, deps, 0, ty, idd, field, value, re, im, rn, rs, dots⟩ q) (hv : value.size ≤ maxLen) (hd : dots.length * 16 ≤ 140737488355328) (hz : Hid (c.ents = [] ∧ c.elems = [])) :
    Calls Tryz.prog 54 #[ceV c p, oV ⟨dn, ds, time, deps, 0, ty, idd, field, value, re, im, rn, rs, dots⟩ q] w fun e w' => ∃ x, e = .returned (.tuple #[ceV (effC c ⟨dn, ds, time, deps, 0, ty, idd, field, value, re, im, rn, rs, dots⟩).1 x, .int .i64 (effC c ⟨dn, ds, time, deps, 0, ty, idd, field, value, re, im, rn, rs, dots⟩).2]) ∧ COwnZ w.heap.size w' (effC c ⟨dn, ds, time, deps, 0, ty, idd, field, value, re, im, rn, rs, dots⟩).1 x ∧ Below w.heap.size w w' := by
  have he : effC c ⟨dn, ds, time, deps, 0, ty, idd, field, value, re, im, rn, rs, dots⟩ = (if setB c time dn value then (setC c time dn value, 0) else (ce0, 700)) := rfl
  obtain ⟨d, er, hD⟩ : ∃ d er, effC c ⟨dn, ds, time, deps, 0, ty, idd, field, value, re, im, rn, rs, dots⟩ = (d, er) := ⟨_, _, rfl⟩
  have HD0 : Hid (effC c ⟨dn, ds, time, deps, 0, ty, idd, field, value, re, im, rn, rs, dots⟩ = (d, er)) := hD
  rw [hD]
  rw [he] at hD
  have HDE : Hid ((if setB c time dn value then (setC c time dn value, 0) else (ce0, 700)) = (d, er)) := hD
  clear he hD
  obtain ⟨po, pc, qo, qc⟩ := q
  have HP : Hid (Fit c ∧ value.size ≤ maxLen ∧ dots.length * 16 ≤ 140737488355328) := ⟨hf, hv, hd⟩
  obtain ⟨h, hh⟩ : ∃ h, w.heap.size = h := ⟨_, rfl⟩
  have H0 : Hid (Eff3 w h c p ⟨dn, ds, time, deps, 0, ty, idd, field, value, re, im, rn, rs, dots⟩ ⟨po, pc, qo, qc⟩ (((w.alloc (.cells (ceL c p).toArray 30)).alloc (.cells (oL ⟨dn, ds, time, deps, 0, ty, idd, field, value, re, im, rn, rs, dots⟩ ⟨po, pc, qo, qc⟩).toArray 35)).alloc (.cells #[.int .i64 0, .bool false, .int .i64 0, .int .i64 0, .string ⟨#[]⟩, .int .i64 0, .int .i64 0, .slice none 0 0, .slice none 0 0, .slice none 0 0] 30))) := eff3_new hh hr ho
  rw [hh]
  clear hr hf ho hv hd
  go_enter Tryz.func54, Tryz.ntmps54
  go_upto_region 1 with fail
  generalize hW : ((w.alloc (.cells (ceL c p).toArray 30)).alloc (.cells (oL ⟨dn, ds, time, deps, 0, ty, idd, field, value, re, im, rn, rs, dots⟩ ⟨po, pc, qo, qc⟩).toArray 35)).alloc (.cells #[.int .i64 0, .bool false, .int .i64 0, .int .i64 0, .string ⟨#[]⟩, .int .i64 0, .int .i64 0, .slice none 0 0, .slice none 0 0, .slice none 0 0] 30) = w1 at H0 ⊢
  clear hW
  try simp only [hh]
  clear hh
  have lc := ld_ce H0.out.cell
  have y0 := H0.out.op.at 0 rfl
  have y2 := H0.out.op.at 2 rfl
  have y8 := H0.out.op.at 8 rfl
  have e1 : (if setB c time dn value then (setC c time dn value, (0 : Int)) else (ce0, 700)).1 = d := congrArg Prod.fst HDE.out
  have e2 : (if setB c time dn value then (setC c time dn value, (0 : Int)) else (ce0, 700)).2 = er := congrArg Prod.snd HDE.out
  have C := lset_Z c p time dn value w1 H0.out.cr HP.out.1 HP.out.2.1 hz.out.1 hz.out.2
  rw [e1, e2] at C
  clear e1 e2
  go_wp2_with (refine wpList_ldt lc rfl rfl rfl ?_)
  refine C.mono ?_
  rintro e w2 ⟨x, rfl, o2, b2⟩
  have H2 : Hid (Has w2 (h + 2) (ceL ce0 pl0) ∧ Below h w w2 ∧ COwnZ (h + 3) w2 d x) := ⟨H0.out.res.later b2, H0.out.base.trans (b2.mono (by have := H0.out.res.1; omega)), o2.mono (show h + 3 ≤ _ from H0.out.res.1)⟩
  clear o2 b2 H0 lc C
  try clear y0 y2 y8
  obtain ⟨t0, t1, t2, t3, t4, t5, t6, t7, t8, t9⟩ := H2.out.1.ten
  obtain ⟨f0, f1, f2, f3, f4, f5, f6, f7, f8, f9⟩ := H2.out.1.tenf
  go_wp2_with fail
  exact bodyPost_ret (ret_cell2 rfl rfl rfl (H2.out.1.put10 _ _ _ _ _ _ _ _ _ _)) rfl ⟨x, rfl, (H2.out.2.2.put10 (by omega) _ _ _ _ _ _ _ _ _ _).mono (by omega), below_put10 H2.out.2.1 (by omega) _ _ _ _ _ _ _ _ _ _⟩

set_option maxHeartbeats 4000000 in
set_option maxRecDepth 100000 in
theorem chg_1 (c : Ce) (p : Pl) (dn ds time : Int) (deps : List Int) (ty idd field value : ByteArray) (re im rn rs : Int) (dots : List D2) (q : Pq) (w : World) (hr : CRow w c p) (hf : Fit c) (ho : ORow w ⟨dn, ds, time, deps, 1, ty, idd, field, value, re, im, rn, rs, dots⟩ q) (hv : value.size ≤ maxLen) (hd : dots.length * 16 ≤ 140737488355328) (hz : Hid (c.ents = [] ∧ c.elems = [])) :
    Calls Tryz.prog 56 #[ceV c p, oV ⟨dn, ds, time, deps, 1, ty, idd, field, value, re, im, rn, rs, dots⟩ q] w fun e w' => ∃ x, e = .returned (.tuple #[ceV (effC c ⟨dn, ds, time, deps, 1, ty, idd, field, value, re, im, rn, rs, dots⟩).1 x, .int .i64 (effC c ⟨dn, ds, time, deps, 1, ty, idd, field, value, re, im, rn, rs, dots⟩).2]) ∧ COwnZ w.heap.size w' (effC c ⟨dn, ds, time, deps, 1, ty, idd, field, value, re, im, rn, rs, dots⟩).1 x ∧ Below w.heap.size w w' := by
  have he : effC c ⟨dn, ds, time, deps, 1, ty, idd, field, value, re, im, rn, rs, dots⟩ = (ansN c re im, ansM c re im) := rfl
  obtain ⟨d, er, hD⟩ : ∃ d er, effC c ⟨dn, ds, time, deps, 1, ty, idd, field, value, re, im, rn, rs, dots⟩ = (d, er) := ⟨_, _, rfl⟩
  have HD0 : Hid (effC c ⟨dn, ds, time, deps, 1, ty, idd, field, value, re, im, rn, rs, dots⟩ = (d, er)) := hD
  rw [hD]
  rw [he] at hD
  have HDE : Hid ((ansN c re im, ansM c re im) = (d, er)) := hD
  clear he hD
  obtain ⟨po, pc, qo, qc⟩ := q
  have HP : Hid (Fit c ∧ value.size ≤ maxLen ∧ dots.length * 16 ≤ 140737488355328) := ⟨hf, hv, hd⟩
  obtain ⟨h, hh⟩ : ∃ h, w.heap.size = h := ⟨_, rfl⟩
  have H0 : Hid (Eff3 w h c p ⟨dn, ds, time, deps, 1, ty, idd, field, value, re, im, rn, rs, dots⟩ ⟨po, pc, qo, qc⟩ (((w.alloc (.cells (ceL c p).toArray 30)).alloc (.cells (oL ⟨dn, ds, time, deps, 1, ty, idd, field, value, re, im, rn, rs, dots⟩ ⟨po, pc, qo, qc⟩).toArray 35)).alloc (.cells #[.int .i64 0, .bool false, .int .i64 0, .int .i64 0, .string ⟨#[]⟩, .int .i64 0, .int .i64 0, .slice none 0 0, .slice none 0 0, .slice none 0 0] 30))) := eff3_new hh hr ho
  rw [hh]
  clear hr hf ho hv hd
  go_enter Tryz.func56, Tryz.ntmps56
  go_upto_region 1 with fail
  generalize hW : ((w.alloc (.cells (ceL c p).toArray 30)).alloc (.cells (oL ⟨dn, ds, time, deps, 1, ty, idd, field, value, re, im, rn, rs, dots⟩ ⟨po, pc, qo, qc⟩).toArray 35)).alloc (.cells #[.int .i64 0, .bool false, .int .i64 0, .int .i64 0, .string ⟨#[]⟩, .int .i64 0, .int .i64 0, .slice none 0 0, .slice none 0 0, .slice none 0 0] 30) = w1 at H0 ⊢
  clear hW
  try simp only [hh]
  clear hh
  have lc := ld_ce H0.out.cell
  have y9 := H0.out.op.at 9 rfl
  have y10 := H0.out.op.at 10 rfl
  have e1 : ansN c re im = d := congrArg Prod.fst HDE.out
  have e2 : ansM c re im = er := congrArg Prod.snd HDE.out
  have C := cadd_Z c p re im w1 H0.out.cr HP.out.1 hz.out.1 hz.out.2
  rw [e1, e2] at C
  clear e1 e2
  go_wp2_with (refine wpList_ldt lc rfl rfl rfl ?_)
  refine C.mono ?_
  rintro e w2 ⟨x, rfl, o2, b2⟩
  have H2 : Hid (Has w2 (h + 2) (ceL ce0 pl0) ∧ Below h w w2 ∧ COwnZ (h + 3) w2 d x) := ⟨H0.out.res.later b2, H0.out.base.trans (b2.mono (by have := H0.out.res.1; omega)), o2.mono (show h + 3 ≤ _ from H0.out.res.1)⟩
  clear o2 b2 H0 lc C
  try clear y9 y10
  obtain ⟨t0, t1, t2, t3, t4, t5, t6, t7, t8, t9⟩ := H2.out.1.ten
  obtain ⟨f0, f1, f2, f3, f4, f5, f6, f7, f8, f9⟩ := H2.out.1.tenf
  go_wp2_with fail
  exact bodyPost_ret (ret_cell2 rfl rfl rfl (H2.out.1.put10 _ _ _ _ _ _ _ _ _ _)) rfl ⟨x, rfl, (H2.out.2.2.put10 (by omega) _ _ _ _ _ _ _ _ _ _).mono (by omega), below_put10 H2.out.2.1 (by omega) _ _ _ _ _ _ _ _ _ _⟩

set_option maxHeartbeats 4000000 in
set_option maxRecDepth 100000 in
theorem chg_2 (c : Ce) (p : Pl) (dn ds time : Int) (deps : List Int) (ty idd field value : ByteArray) (re im rn rs : Int) (dots : List D2) (q : Pq) (w : World) (hr : CRow w c p) (hf : Fit c) (ho : ORow w ⟨dn, ds, time, deps, 2, ty, idd, field, value, re, im, rn, rs, dots⟩ q) (hv : value.size ≤ maxLen) (hd : dots.length * 16 ≤ 140737488355328) (hz : Hid (c.elems = [])) :
    Calls Tryz.prog 58 #[ceV c p, oV ⟨dn, ds, time, deps, 2, ty, idd, field, value, re, im, rn, rs, dots⟩ q] w fun e w' => ∃ x, e = .returned (.tuple #[ceV (effC c ⟨dn, ds, time, deps, 2, ty, idd, field, value, re, im, rn, rs, dots⟩).1 x, .int .i64 (effC c ⟨dn, ds, time, deps, 2, ty, idd, field, value, re, im, rn, rs, dots⟩).2]) ∧ COwnZ w.heap.size w' (effC c ⟨dn, ds, time, deps, 2, ty, idd, field, value, re, im, rn, rs, dots⟩).1 x ∧ Below w.heap.size w w' := by
  have he : effC c ⟨dn, ds, time, deps, 2, ty, idd, field, value, re, im, rn, rs, dots⟩ = (ansP c (dn, ds) value, numP c (dn, ds) value) := rfl
  obtain ⟨d, er, hD⟩ : ∃ d er, effC c ⟨dn, ds, time, deps, 2, ty, idd, field, value, re, im, rn, rs, dots⟩ = (d, er) := ⟨_, _, rfl⟩
  have HD0 : Hid (effC c ⟨dn, ds, time, deps, 2, ty, idd, field, value, re, im, rn, rs, dots⟩ = (d, er)) := hD
  rw [hD]
  rw [he] at hD
  have HDE : Hid ((ansP c (dn, ds) value, numP c (dn, ds) value) = (d, er)) := hD
  clear he hD
  obtain ⟨po, pc, qo, qc⟩ := q
  have HP : Hid (Fit c ∧ value.size ≤ maxLen ∧ dots.length * 16 ≤ 140737488355328) := ⟨hf, hv, hd⟩
  obtain ⟨h, hh⟩ : ∃ h, w.heap.size = h := ⟨_, rfl⟩
  have H0 : Hid (Eff3 w h c p ⟨dn, ds, time, deps, 2, ty, idd, field, value, re, im, rn, rs, dots⟩ ⟨po, pc, qo, qc⟩ (((w.alloc (.cells (ceL c p).toArray 30)).alloc (.cells (oL ⟨dn, ds, time, deps, 2, ty, idd, field, value, re, im, rn, rs, dots⟩ ⟨po, pc, qo, qc⟩).toArray 35)).alloc (.cells #[.int .i64 0, .bool false, .int .i64 0, .int .i64 0, .string ⟨#[]⟩, .int .i64 0, .int .i64 0, .slice none 0 0, .slice none 0 0, .slice none 0 0] 30))) := eff3_new hh hr ho
  rw [hh]
  clear hr hf ho hv hd
  go_enter Tryz.func58, Tryz.ntmps58
  go_upto_region 1 with fail
  generalize hW : ((w.alloc (.cells (ceL c p).toArray 30)).alloc (.cells (oL ⟨dn, ds, time, deps, 2, ty, idd, field, value, re, im, rn, rs, dots⟩ ⟨po, pc, qo, qc⟩).toArray 35)).alloc (.cells #[.int .i64 0, .bool false, .int .i64 0, .int .i64 0, .string ⟨#[]⟩, .int .i64 0, .int .i64 0, .slice none 0 0, .slice none 0 0, .slice none 0 0] 30) = w1 at H0 ⊢
  clear hW
  try simp only [hh]
  clear hh
  have lc := ld_ce H0.out.cell
  have y0 := H0.out.op.at 0 rfl
  have y1 := H0.out.op.at 1 rfl
  have y8 := H0.out.op.at 8 rfl
  have e1 : ansP c (dn, ds) value = d := congrArg Prod.fst HDE.out
  have e2 : numP c (dn, ds) value = er := congrArg Prod.snd HDE.out
  have C := put_Z c p (dn, ds) value w1 H0.out.cr HP.out.1 HP.out.2.1 hz.out
  rw [e1, e2] at C
  clear e1 e2
  go_wp2_with (refine wpList_ldt lc rfl rfl rfl ?_)
  refine C.mono ?_
  rintro e w2 ⟨x, rfl, o2, b2⟩
  have H2 : Hid (Has w2 (h + 2) (ceL ce0 pl0) ∧ Below h w w2 ∧ COwnZ (h + 3) w2 d x) := ⟨H0.out.res.later b2, H0.out.base.trans (b2.mono (by have := H0.out.res.1; omega)), o2.mono (show h + 3 ≤ _ from H0.out.res.1)⟩
  clear o2 b2 H0 lc C
  try clear y0 y1 y8
  obtain ⟨t0, t1, t2, t3, t4, t5, t6, t7, t8, t9⟩ := H2.out.1.ten
  obtain ⟨f0, f1, f2, f3, f4, f5, f6, f7, f8, f9⟩ := H2.out.1.tenf
  go_wp2_with fail
  exact bodyPost_ret (ret_cell2 rfl rfl rfl (H2.out.1.put10 _ _ _ _ _ _ _ _ _ _)) rfl ⟨x, rfl, (H2.out.2.2.put10 (by omega) _ _ _ _ _ _ _ _ _ _).mono (by omega), below_put10 H2.out.2.1 (by omega) _ _ _ _ _ _ _ _ _ _⟩

set_option maxHeartbeats 4000000 in
set_option maxRecDepth 100000 in
theorem chg_3 (c : Ce) (p : Pl) (dn ds time : Int) (deps : List Int) (ty idd field value : ByteArray) (re im rn rs : Int) (dots : List D2) (q : Pq) (w : World) (hr : CRow w c p) (hf : Fit c) (ho : ORow w ⟨dn, ds, time, deps, 3, ty, idd, field, value, re, im, rn, rs, dots⟩ q) (hv : value.size ≤ maxLen) (hd : dots.length * 16 ≤ 140737488355328) (hz : Hid (c.elems = [])) :
    Calls Tryz.prog 60 #[ceV c p, oV ⟨dn, ds, time, deps, 3, ty, idd, field, value, re, im, rn, rs, dots⟩ q] w fun e w' => ∃ x, e = .returned (.tuple #[ceV (effC c ⟨dn, ds, time, deps, 3, ty, idd, field, value, re, im, rn, rs, dots⟩).1 x, .int .i64 (effC c ⟨dn, ds, time, deps, 3, ty, idd, field, value, re, im, rn, rs, dots⟩).2]) ∧ COwnZ w.heap.size w' (effC c ⟨dn, ds, time, deps, 3, ty, idd, field, value, re, im, rn, rs, dots⟩).1 x ∧ Below w.heap.size w w' := by
  have he : effC c ⟨dn, ds, time, deps, 3, ty, idd, field, value, re, im, rn, rs, dots⟩ = (ansQ c dots, numQ c) := rfl
  obtain ⟨d, er, hD⟩ : ∃ d er, effC c ⟨dn, ds, time, deps, 3, ty, idd, field, value, re, im, rn, rs, dots⟩ = (d, er) := ⟨_, _, rfl⟩
  have HD0 : Hid (effC c ⟨dn, ds, time, deps, 3, ty, idd, field, value, re, im, rn, rs, dots⟩ = (d, er)) := hD
  rw [hD]
  rw [he] at hD
  have HDE : Hid ((ansQ c dots, numQ c) = (d, er)) := hD
  clear he hD
  obtain ⟨po, pc, qo, qc⟩ := q
  have HP : Hid (Fit c ∧ value.size ≤ maxLen ∧ dots.length * 16 ≤ 140737488355328) := ⟨hf, hv, hd⟩
  obtain ⟨h, hh⟩ : ∃ h, w.heap.size = h := ⟨_, rfl⟩
  have H0 : Hid (Eff3 w h c p ⟨dn, ds, time, deps, 3, ty, idd, field, value, re, im, rn, rs, dots⟩ ⟨po, pc, qo, qc⟩ (((w.alloc (.cells (ceL c p).toArray 30)).alloc (.cells (oL ⟨dn, ds, time, deps, 3, ty, idd, field, value, re, im, rn, rs, dots⟩ ⟨po, pc, qo, qc⟩).toArray 35)).alloc (.cells #[.int .i64 0, .bool false, .int .i64 0, .int .i64 0, .string ⟨#[]⟩, .int .i64 0, .int .i64 0, .slice none 0 0, .slice none 0 0, .slice none 0 0] 30))) := eff3_new hh hr ho
  rw [hh]
  clear hr hf ho hv hd
  go_enter Tryz.func60, Tryz.ntmps60
  go_upto_region 1 with fail
  generalize hW : ((w.alloc (.cells (ceL c p).toArray 30)).alloc (.cells (oL ⟨dn, ds, time, deps, 3, ty, idd, field, value, re, im, rn, rs, dots⟩ ⟨po, pc, qo, qc⟩).toArray 35)).alloc (.cells #[.int .i64 0, .bool false, .int .i64 0, .int .i64 0, .string ⟨#[]⟩, .int .i64 0, .int .i64 0, .slice none 0 0, .slice none 0 0, .slice none 0 0] 30) = w1 at H0 ⊢
  clear hW
  try simp only [hh]
  clear hh
  have lc := ld_ce H0.out.cell
  have y13 := H0.out.op.at 13 rfl
  have e1 : ansQ c dots = d := congrArg Prod.fst HDE.out
  have e2 : numQ c = er := congrArg Prod.snd HDE.out
  have C := drop_Z c p qo qc dots w1 H0.out.cr HP.out.1 H0.out.dots HP.out.2.2 hz.out
  rw [e1, e2] at C
  clear e1 e2
  go_wp2_with (refine wpList_ldt lc rfl rfl rfl ?_)
  refine C.mono ?_
  rintro e w2 ⟨x, rfl, o2, b2⟩
  have H2 : Hid (Has w2 (h + 2) (ceL ce0 pl0) ∧ Below h w w2 ∧ COwnZ (h + 3) w2 d x) := ⟨H0.out.res.later b2, H0.out.base.trans (b2.mono (by have := H0.out.res.1; omega)), o2.mono (show h + 3 ≤ _ from H0.out.res.1)⟩
  clear o2 b2 H0 lc C
  try clear y13
  obtain ⟨t0, t1, t2, t3, t4, t5, t6, t7, t8, t9⟩ := H2.out.1.ten
  obtain ⟨f0, f1, f2, f3, f4, f5, f6, f7, f8, f9⟩ := H2.out.1.tenf
  go_wp2_with fail
  exact bodyPost_ret (ret_cell2 rfl rfl rfl (H2.out.1.put10 _ _ _ _ _ _ _ _ _ _)) rfl ⟨x, rfl, (H2.out.2.2.put10 (by omega) _ _ _ _ _ _ _ _ _ _).mono (by omega), below_put10 H2.out.2.1 (by omega) _ _ _ _ _ _ _ _ _ _⟩

set_option maxHeartbeats 4000000 in
set_option maxRecDepth 100000 in
theorem chg_4 (c : Ce) (p : Pl) (dn ds time : Int) (deps : List Int) (ty idd field value : ByteArray) (re im rn rs : Int) (dots : List D2) (q : Pq) (w : World) (hr : CRow w c p) (hf : Fit c) (ho : ORow w ⟨dn, ds, time, deps, 4, ty, idd, field, value, re, im, rn, rs, dots⟩ q) (hv : value.size ≤ maxLen) (hd : dots.length * 16 ≤ 140737488355328) (hz : Hid (c.ents = [])) :
    Calls Tryz.prog 62 #[ceV c p, oV ⟨dn, ds, time, deps, 4, ty, idd, field, value, re, im, rn, rs, dots⟩ q] w fun e w' => ∃ x, e = .returned (.tuple #[ceV (effC c ⟨dn, ds, time, deps, 4, ty, idd, field, value, re, im, rn, rs, dots⟩).1 x, .int .i64 (effC c ⟨dn, ds, time, deps, 4, ty, idd, field, value, re, im, rn, rs, dots⟩).2]) ∧ COwnZ w.heap.size w' (effC c ⟨dn, ds, time, deps, 4, ty, idd, field, value, re, im, rn, rs, dots⟩).1 x ∧ Below w.heap.size w w' := by
  have he : effC c ⟨dn, ds, time, deps, 4, ty, idd, field, value, re, im, rn, rs, dots⟩ = ansI c ⟨dn, ds, time, value, false⟩ (rn, rs) := rfl
  obtain ⟨d, er, hD⟩ : ∃ d er, effC c ⟨dn, ds, time, deps, 4, ty, idd, field, value, re, im, rn, rs, dots⟩ = (d, er) := ⟨_, _, rfl⟩
  have HD0 : Hid (effC c ⟨dn, ds, time, deps, 4, ty, idd, field, value, re, im, rn, rs, dots⟩ = (d, er)) := hD
  rw [hD]
  rw [he] at hD
  have HDE : Hid (ansI c ⟨dn, ds, time, value, false⟩ (rn, rs) = (d, er)) := hD
  clear he hD
  obtain ⟨po, pc, qo, qc⟩ := q
  have HP : Hid (Fit c ∧ value.size ≤ maxLen ∧ dots.length * 16 ≤ 140737488355328) := ⟨hf, hv, hd⟩
  obtain ⟨h, hh⟩ : ∃ h, w.heap.size = h := ⟨_, rfl⟩
  have H0 : Hid (Eff3 w h c p ⟨dn, ds, time, deps, 4, ty, idd, field, value, re, im, rn, rs, dots⟩ ⟨po, pc, qo, qc⟩ (((w.alloc (.cells (ceL c p).toArray 30)).alloc (.cells (oL ⟨dn, ds, time, deps, 4, ty, idd, field, value, re, im, rn, rs, dots⟩ ⟨po, pc, qo, qc⟩).toArray 35)).alloc (.cells #[.int .i64 0, .bool false, .int .i64 0, .int .i64 0, .string ⟨#[]⟩, .int .i64 0, .int .i64 0, .slice none 0 0, .slice none 0 0, .slice none 0 0] 30))) := eff3_new hh hr ho
  rw [hh]
  clear hr hf ho hv hd
  go_enter Tryz.func62, Tryz.ntmps62
  go_upto_region 1 with fail
  generalize hW : ((w.alloc (.cells (ceL c p).toArray 30)).alloc (.cells (oL ⟨dn, ds, time, deps, 4, ty, idd, field, value, re, im, rn, rs, dots⟩ ⟨po, pc, qo, qc⟩).toArray 35)).alloc (.cells #[.int .i64 0, .bool false, .int .i64 0, .int .i64 0, .string ⟨#[]⟩, .int .i64 0, .int .i64 0, .slice none 0 0, .slice none 0 0, .slice none 0 0] 30) = w1 at H0 ⊢
  clear hW
  try simp only [hh]
  clear hh
  have lc := ld_ce H0.out.cell
  have y0 := H0.out.op.at 0 rfl
  have y1 := H0.out.op.at 1 rfl
  have y2 := H0.out.op.at 2 rfl
  have y8 := H0.out.op.at 8 rfl
  have y11 := H0.out.op.at 11 rfl
  have y12 := H0.out.op.at 12 rfl
  have e1 : (ansI c ⟨dn, ds, time, value, false⟩ (rn, rs)).1 = d := congrArg Prod.fst HDE.out
  have e2 : (ansI c ⟨dn, ds, time, value, false⟩ (rn, rs)).2 = er := congrArg Prod.snd HDE.out
  have C := ins_Z c p ⟨dn, ds, time, value, false⟩ (rn, rs) w1 H0.out.cr HP.out.1 HP.out.2.1 hz.out
  rw [e1, e2] at C
  clear e1 e2
  go_wp2_with (refine wpList_ldt lc rfl rfl rfl ?_)
  refine C.mono ?_
  rintro e w2 ⟨x, rfl, o2, b2⟩
  have H2 : Hid (Has w2 (h + 2) (ceL ce0 pl0) ∧ Below h w w2 ∧ COwnZ (h + 3) w2 d x) := ⟨H0.out.res.later b2, H0.out.base.trans (b2.mono (by have := H0.out.res.1; omega)), o2.mono (show h + 3 ≤ _ from H0.out.res.1)⟩
  clear o2 b2 H0 lc C
  try clear y0 y1 y2 y8 y11 y12
  obtain ⟨t0, t1, t2, t3, t4, t5, t6, t7, t8, t9⟩ := H2.out.1.ten
  obtain ⟨f0, f1, f2, f3, f4, f5, f6, f7, f8, f9⟩ := H2.out.1.tenf
  go_wp2_with fail
  exact bodyPost_ret (ret_cell2 rfl rfl rfl (H2.out.1.put10 _ _ _ _ _ _ _ _ _ _)) rfl ⟨x, rfl, (H2.out.2.2.put10 (by omega) _ _ _ _ _ _ _ _ _ _).mono (by omega), below_put10 H2.out.2.1 (by omega) _ _ _ _ _ _ _ _ _ _⟩

set_option maxHeartbeats 4000000 in
set_option maxRecDepth 100000 in
theorem chg_5 (c : Ce) (p : Pl) (dn ds time : Int) (deps : List Int) (ty idd field value : ByteArray) (re im rn rs : Int) (dots : List D2) (q : Pq) (w : World) (hr : CRow w c p) (hf : Fit c) (ho : ORow w ⟨dn, ds, time, deps, 5, ty, idd, field, value, re, im, rn, rs, dots⟩ q) (hv : value.size ≤ maxLen) (hd : dots.length * 16 ≤ 140737488355328) (hz : Hid (c.ents = [])) :
    Calls Tryz.prog 64 #[ceV c p, oV ⟨dn, ds, time, deps, 5, ty, idd, field, value, re, im, rn, rs, dots⟩ q] w fun e w' => ∃ x, e = .returned (.tuple #[ceV (effC c ⟨dn, ds, time, deps, 5, ty, idd, field, value, re, im, rn, rs, dots⟩).1 x, .int .i64 (effC c ⟨dn, ds, time, deps, 5, ty, idd, field, value, re, im, rn, rs, dots⟩).2]) ∧ COwnZ w.heap.size w' (effC c ⟨dn, ds, time, deps, 5, ty, idd, field, value, re, im, rn, rs, dots⟩).1 x ∧ Below w.heap.size w w' := by
  have he : effC c ⟨dn, ds, time, deps, 5, ty, idd, field, value, re, im, rn, rs, dots⟩ = ansR c (rn, rs) := rfl
  obtain ⟨d, er, hD⟩ : ∃ d er, effC c ⟨dn, ds, time, deps, 5, ty, idd, field, value, re, im, rn, rs, dots⟩ = (d, er) := ⟨_, _, rfl⟩
  have HD0 : Hid (effC c ⟨dn, ds, time, deps, 5, ty, idd, field, value, re, im, rn, rs, dots⟩ = (d, er)) := hD
  rw [hD]
  rw [he] at hD
  have HDE : Hid (ansR c (rn, rs) = (d, er)) := hD
  clear he hD
  obtain ⟨po, pc, qo, qc⟩ := q
  have HP : Hid (Fit c ∧ value.size ≤ maxLen ∧ dots.length * 16 ≤ 140737488355328) := ⟨hf, hv, hd⟩
  obtain ⟨h, hh⟩ : ∃ h, w.heap.size = h := ⟨_, rfl⟩
  have H0 : Hid (Eff3 w h c p ⟨dn, ds, time, deps, 5, ty, idd, field, value, re, im, rn, rs, dots⟩ ⟨po, pc, qo, qc⟩ (((w.alloc (.cells (ceL c p).toArray 30)).alloc (.cells (oL ⟨dn, ds, time, deps, 5, ty, idd, field, value, re, im, rn, rs, dots⟩ ⟨po, pc, qo, qc⟩).toArray 35)).alloc (.cells #[.int .i64 0, .bool false, .int .i64 0, .int .i64 0, .string ⟨#[]⟩, .int .i64 0, .int .i64 0, .slice none 0 0, .slice none 0 0, .slice none 0 0] 30))) := eff3_new hh hr ho
  rw [hh]
  clear hr hf ho hv hd
  go_enter Tryz.func64, Tryz.ntmps64
  go_upto_region 1 with fail
  generalize hW : ((w.alloc (.cells (ceL c p).toArray 30)).alloc (.cells (oL ⟨dn, ds, time, deps, 5, ty, idd, field, value, re, im, rn, rs, dots⟩ ⟨po, pc, qo, qc⟩).toArray 35)).alloc (.cells #[.int .i64 0, .bool false, .int .i64 0, .int .i64 0, .string ⟨#[]⟩, .int .i64 0, .int .i64 0, .slice none 0 0, .slice none 0 0, .slice none 0 0] 30) = w1 at H0 ⊢
  clear hW
  try simp only [hh]
  clear hh
  have lc := ld_ce H0.out.cell
  have y11 := H0.out.op.at 11 rfl
  have y12 := H0.out.op.at 12 rfl
  have e1 : (ansR c (rn, rs)).1 = d := congrArg Prod.fst HDE.out
  have e2 : (ansR c (rn, rs)).2 = er := congrArg Prod.snd HDE.out
  have C := era_Z c p (rn, rs) w1 H0.out.cr HP.out.1 hz.out
  rw [e1, e2] at C
  clear e1 e2
  go_wp2_with (refine wpList_ldt lc rfl rfl rfl ?_)
  refine C.mono ?_
  rintro e w2 ⟨x, rfl, o2, b2⟩
  have H2 : Hid (Has w2 (h + 2) (ceL ce0 pl0) ∧ Below h w w2 ∧ COwnZ (h + 3) w2 d x) := ⟨H0.out.res.later b2, H0.out.base.trans (b2.mono (by have := H0.out.res.1; omega)), o2.mono (show h + 3 ≤ _ from H0.out.res.1)⟩
  clear o2 b2 H0 lc C
  try clear y11 y12
  obtain ⟨t0, t1, t2, t3, t4, t5, t6, t7, t8, t9⟩ := H2.out.1.ten
  obtain ⟨f0, f1, f2, f3, f4, f5, f6, f7, f8, f9⟩ := H2.out.1.tenf
  go_wp2_with fail
  exact bodyPost_ret (ret_cell2 rfl rfl rfl (H2.out.1.put10 _ _ _ _ _ _ _ _ _ _)) rfl ⟨x, rfl, (H2.out.2.2.put10 (by omega) _ _ _ _ _ _ _ _ _ _).mono (by omega), below_put10 H2.out.2.1 (by omega) _ _ _ _ _ _ _ _ _ _⟩

end Go.Proofs.YtgkddimijmnpcaaGreatDoor

/-
  Package op's May and Kind, by contracts.
-/
namespace Go.Proofs.YtgkddimijmnpcaaGreatDoor
open Go.RowKit
set_option linter.unusedVariables false
set_option linter.unusedSimpArgs false

theorem what_any (o : O14) (q : Pq) (w : World) (hr : ORow w o q) (hs : Siz o) : Calls Tryz.prog 52 #[oV o q] w fun e w' => e = .returned (.bool (whatB o)) ∧ Below w.heap.size w w' := by
  obtain ⟨dn, ds, time, deps, kind, ty, idd, field, value, re, im, rn, rs, dots⟩ := o
  have hk : kind = 0 ∨ kind = 1 ∨ kind = 2 ∨ kind = 3 ∨ kind = 4 ∨ kind = 5 ∨ ¬ (0 ≤ kind ∧ kind ≤ 5) := by omega
  rcases hk with rfl | rfl | rfl | rfl | rfl | rfl | hk
  · exact what_0 _ _ _ _ _ _ _ _ _ _ _ _ _ _ _ hr hs
  · exact what_1 _ _ _ _ _ _ _ _ _ _ _ _ _ _ _ hr hs
  · exact what_2 _ _ _ _ _ _ _ _ _ _ _ _ _ _ _ hr hs
  · exact what_3 _ _ _ _ _ _ _ _ _ _ _ _ _ _ _ hr hs
  · exact what_4 _ _ _ _ _ _ _ _ _ _ _ _ _ _ _ hr hs
  · exact what_5 _ _ _ _ _ _ _ _ _ _ _ _ _ _ _ hr hs
  · exact what_x _ _ _ _ _ _ _ _ _ _ _ _ _ _ _ _ hr hs hk

set_option maxHeartbeats 1000000 in
set_option maxRecDepth 100000 in
theorem omay_any (o : O14) (q : Pq) (n : Int) (w : World) (hr : ORow w o q) (hs : Siz o) : Calls Tryz.prog 27 #[oV o q, .int .i64 n] w fun e w' => e = .returned (.bool (mayO o n)) ∧ Below w.heap.size w w' := by
  obtain ⟨h, hh⟩ : ∃ h, w.heap.size = h := ⟨_, rfl⟩
  have H0 : Hid (OBox w h o q (w.alloc (.cells (oL o q).toArray 35)) ∧ (w.alloc (.cells (oL o q).toArray 35)).heap.size = h + 1) := obox_new hh hr _
  rw [hh]
  clear hr
  have HS : Hid (Siz o) := hs
  clear hs
  go_enter Tryz.func27, Tryz.ntmps27
  go_wp2_with fail
  generalize hW : w.alloc (.cells (oL o q).toArray 35) = w1 at H0 ⊢
  clear hW hh
  obtain ⟨g0, g1, g2, g3, g4, g5, g6, g7, g8, g9, g10, g11, g12, g13⟩ := (show Has w1 h (oL o q) from H0.out.1.1).f14
  have A1 : Hid (mayO o n = (whenB o n && whereB o && whatB o)) := rfl
  cases h1 : whenB o n with
  | false =>
    go_wp2_with (go_at_call 50; refine (when_any o q n _ H0.out.1.2.1).mono ?_; rintro e w2 ⟨rfl, b2⟩)
    go_ret
    exact ⟨ret_bool (by rw [A1.out, h1]; rfl), (H0.out.1.later b2).2.2.1⟩
  | true =>
    cases h2 : whereB o with
    | false =>
      go_wp2_with (first | (go_at_call 50; refine (when_any o q n _ H0.out.1.2.1).mono ?_; rintro e w2 ⟨rfl, b2⟩; have H2 : Hid (OBox w h o q w2) := H0.out.1.later b2; clear g0 g1 g2 g3 g4 g5 g6 g7 g8 g9 g10 g11 g12 g13; obtain ⟨g0, g1, g2, g3, g4, g5, g6, g7, g8, g9, g10, g11, g12, g13⟩ := (show Has w2 h (oL o q) from H2.out.1).f14) | (go_at_call 51; refine (where_any o q _ H2.out.2.1 HS.out).mono ?_; rintro e w3 ⟨rfl, b3⟩))
      go_ret
      exact ⟨ret_bool (by rw [A1.out, h1, h2]; rfl), (H2.out.later b3).2.2.1⟩
    | true =>
      go_wp2_with (first | (go_at_call 50; refine (when_any o q n _ H0.out.1.2.1).mono ?_; rintro e w2 ⟨rfl, b2⟩; have H2 : Hid (OBox w h o q w2) := H0.out.1.later b2; clear g0 g1 g2 g3 g4 g5 g6 g7 g8 g9 g10 g11 g12 g13; obtain ⟨g0, g1, g2, g3, g4, g5, g6, g7, g8, g9, g10, g11, g12, g13⟩ := (show Has w2 h (oL o q) from H2.out.1).f14) | (go_at_call 51; refine (where_any o q _ H2.out.2.1 HS.out).mono ?_; rintro e w3 ⟨rfl, b3⟩; have H3 : Hid (OBox w h o q w3) := H2.out.later b3; clear g0 g1 g2 g3 g4 g5 g6 g7 g8 g9 g10 g11 g12 g13; obtain ⟨g0, g1, g2, g3, g4, g5, g6, g7, g8, g9, g10, g11, g12, g13⟩ := (show Has w3 h (oL o q) from H3.out.1).f14) | (go_at_call 52; refine (what_any o q _ H3.out.2.1 HS.out).mono ?_; rintro e w4 ⟨rfl, b4⟩))
      go_ret
      exact ⟨ret_bool (by rw [A1.out, h1, h2]; rfl), (H3.out.later b4).2.2.1⟩

set_option maxHeartbeats 1000000 in
set_option maxRecDepth 100000 in
theorem okind_any (o : O14) (q : Pq) (w : World) : Calls Tryz.prog 28 #[oV o q] w fun e w' => e = .returned (.int .i64 (kindN o.kind)) ∧ Below w.heap.size w w' := by
  obtain ⟨h, hh⟩ : ∃ h, w.heap.size = h := ⟨_, rfl⟩
  have B1 : Below h w (w.alloc (.cells (oL o q).toArray 35)) := hh ▸ ((Below.refl _ _).alloc (Nat.le_refl _) _)
  have hz : h ≤ (w.alloc (.cells (oL o q).toArray 35)).heap.size := by simp; omega
  rw [hh]
  obtain ⟨dn, ds, time, deps, kind, ty, idd, field, value, re, im, rn, rs, dots⟩ := o
  go_enter Tryz.func28, Tryz.ntmps28
  go_wp2_with fail
  refine (parts_any kind _).mono ?_
  rintro e w2 ⟨rfl, b2⟩
  have B2 : Hid (Below h w w2 ∧ h ≤ w2.heap.size) := ⟨B1.trans (b2.mono hz), Nat.le_trans hz b2.size⟩
  clear b2 B1 hz
  by_cases hk : 0 ≤ kind ∧ kind ≤ 5
  · have c5 : pKno kind = true := by unfold pKno; simpa using hk
    go_wp2
    go_ret
    refine ⟨?_, B2.out.1.alloc B2.out.2 _⟩
    have : pCel kind = kindN kind := by
      unfold pCel kindN
      rcases (show kind = 0 ∨ kind = 1 ∨ kind = 2 ∨ kind = 3 ∨ kind = 4 ∨ kind = 5 by omega) with rfl | rfl | rfl | rfl | rfl | rfl <;> rfl
    rw [this]
    rfl
  · have c5 : pKno kind = false := by unfold pKno; simp; omega
    go_wp2
    go_ret
    refine ⟨?_, B2.out.1.alloc B2.out.2 _⟩
    have : kindN kind = -1 := by
      unfold kindN
      rw [if_neg (by omega), if_neg (by omega), if_neg (by omega), if_neg (by omega)]
    rw [this]
    rfl

end Go.Proofs.YtgkddimijmnpcaaGreatDoor

/-
  Package cell's Apply: what it refuses, what it does by kind.
-/
namespace Go.Proofs.YtgkddimijmnpcaaGreatDoor
open Go.RowKit Go.Shelf
set_option linter.unusedVariables false
set_option linter.unusedSimpArgs false

theorem Eff3.later {w w1 w2 : World} {h : Nat} {c : Ce} {p : Pl} {o : O14} {q : Pq} (H : Eff3 w h c p o q w1) (hb : Below w1.heap.size w1 w2) : Eff3 w h c p o q w2 :=
  ⟨H.base.trans (hb.mono (by have := H.res.1; omega)), H.cell.later hb, H.op.later hb, H.res.later hb, H.cr.later hb, H.orw.later hb⟩
/-- The table of what operations do. -/
def chgL : List Value := [fnV 54, fnV 56, fnV 58, fnV 60, fnV 62, fnV 64]
set_option maxRecDepth 100000 in
theorem changes_any (w : World) : Calls Tryz.prog 29 #[] w fun e w' => ∃ g, e = .returned (.slice (some ⟨g, 0, none⟩) 6 6) ∧ Has w' g chgL ∧ Below w.heap.size w w' := by
  go_enter Tryz.func29, Tryz.ntmps29
  go_wp2
  go_ret
  exact ⟨_, rfl, has_new w chgL _, (Below.refl _ _).alloc (Nat.le_refl _) _⟩

/-- What the region with the change keeps. -/
abbrev HeldY (w4 : World) (B : Nat) (W : World) : Prop := Hid (Below B w4 W ∧ B ≤ W.heap.size)
theorem heldY_call {w4 W W2 : World} {B : Nat} (hb : Below W.heap.size W W2) (H : HeldY w4 B W) : HeldY w4 B W2 := ⟨H.out.1.trans (hb.mono H.out.2), Nat.le_trans H.out.2 hb.size⟩
theorem heldY_put {w4 W : World} {B k : Nat} (hk : B ≤ k) (H : HeldY w4 B W) (u0 u1 u2 u3 u4 u5 u6 u7 u8 u9 : Value) : HeldY w4 B (put10 W k u0 u1 u2 u3 u4 u5 u6 u7 u8 u9) := ⟨below_put10 H.out.1 hk _ _ _ _ _ _ _ _ _ _, by have := H.out.2; simpa using this⟩
/-- The place of the answer. -/
structure Slot8 (B k : Nat) (W : World) : Prop where
  h : Has W k (ceL ce0 pl0)
  b : B ≤ k
theorem Slot8.later {B k : Nat} {W W2 : World} (H : Slot8 B k W) (hb : Below W.heap.size W W2) : Slot8 B k W2 := ⟨H.h.later hb, H.b⟩
theorem slot8_new {B : Nat} {w4 W : World} (H : HeldY w4 B W) : Slot8 B W.heap.size (W.alloc (.cells #[.int .i64 0, .bool false, .int .i64 0, .int .i64 0, .string ⟨#[]⟩, .int .i64 0, .int .i64 0, .slice none 0 0, .slice none 0 0, .slice none 0 0] 30)) := ⟨has_new W (ceL ce0 pl0) 30, H.out.2⟩
/-- Behind the change: the answer in a place of its own. -/
structure EndY (w : World) (h : Nat) (o : O14) (q : Pq) (d : Ce) (x : Pl) (k : Nat) (W : World) : Prop where
  base : Below h w W
  op : Has W (h + 1) (oL o q)
  res : Has W (h + 2) (ceL ce0 pl0)
  cell : Has W k (ceL d x)
  own : COwnZ (h + 3) W d x
  hk : h + 3 ≤ k
  ne : ∀ b, x.so = some ⟨b, 0, none⟩ → 0 < d.seen.length → b ≠ k
theorem endY_put {w w4 W : World} {h B k M : Nat} {c : Ce} {p : Pl} {o : O14} {q : Pq} {d : Ce} {x : Pl} (F : Eff3 w h c p o q w4) (hB : w4.heap.size = B) (H : HeldY w4 B W) (S : Slot8 B k W) (O : COwnZ M W d x) (hM : k < M) :
    EndY w h o q d x k (put10 W k (.int .i64 d.kind) (.bool d.set) (.int .i64 d.time) (.int .i64 d.node) (.string d.val) (.int .i64 d.re) (.int .i64 d.im) (.slice x.eo d.ents.length x.ec) (.slice x.lo d.elems.length x.lc) (.slice x.so d.seen.length x.sc)) := by
  have h3 : h + 3 ≤ B := by have := F.res.1; omega
  have hb := S.b
  have H2 : HeldY w4 B (put10 W k (.int .i64 d.kind) (.bool d.set) (.int .i64 d.time) (.int .i64 d.node) (.string d.val) (.int .i64 d.re) (.int .i64 d.im) (.slice x.eo d.ents.length x.ec) (.slice x.lo d.elems.length x.lc) (.slice x.so d.seen.length x.sc)) := heldY_put S.b H _ _ _ _ _ _ _ _ _ _
  have F2 := F.later (w2 := put10 W k (.int .i64 d.kind) (.bool d.set) (.int .i64 d.time) (.int .i64 d.node) (.string d.val) (.int .i64 d.re) (.int .i64 d.im) (.slice x.eo d.ents.length x.ec) (.slice x.lo d.elems.length x.lc) (.slice x.so d.seen.length x.sc)) (hB.symm ▸ H2.out.1)
  refine ⟨F2.base, F2.op, F2.res, S.h.put10 _ _ _ _ _ _ _ _ _ _, (O.put10 hM _ _ _ _ _ _ _ _ _ _).mono (by omega), by omega, fun b hb0 hs => ?_⟩
  have := fown_lt O.1.2.2 (by rw [flatI_len]; omega) hb0
  omega
theorem endY_new {w w4 W : World} {h B M : Nat} {c : Ce} {p : Pl} {o : O14} {q : Pq} {d : Ce} {x : Pl} (F : Eff3 w h c p o q w4) (hB : w4.heap.size = B) (H : HeldY w4 B W) (O : COwnZ M W d x) (hM : B ≤ M) :
    EndY w h o q d x W.heap.size (W.alloc (.cells (ceL d x).toArray 30)) := by
  have h3 : h + 3 ≤ B := by have := F.res.1; omega
  have al : Below W.heap.size W (W.alloc (.cells (ceL d x).toArray 30)) := (Below.refl _ _).alloc (Nat.le_refl _) _
  have F2 := F.later (hB.symm ▸ (heldY_call al H).out.1)
  have hb := H.out.2
  refine ⟨F2.base, F2.op, F2.res, has_new W (ceL d x) _, ⟨(O.1.later al).mono (by omega), O.2⟩, by omega, fun b hb0 hs => ?_⟩
  have := fown_lt O.1.2.2 (by rw [flatI_len]; omega) hb0
  omega
theorem eff_seen {c : Ce} {o : O14} (he : (effC c o).2 = 0) : (effC c o).1.seen = c.seen := by
  revert he
  unfold effC
  split
  · split
    · intro _; show (setC c _ _ _).seen = c.seen; unfold setC; split <;> rfl
    · intro h; exact absurd h (by decide)
  split
  · unfold ansN ansM
    split
    · intro _; rfl
    · intro h; exact absurd h (by decide)
  split
  · unfold ansP numP
    split
    · intro _; rfl
    · intro h; exact absurd h (by decide)
  split
  · unfold ansQ numQ
    split
    · intro _; rfl
    · intro h; exact absurd h (by decide)
  split
  · unfold ansI
    split
    · split
      · intro _; rfl
      · intro h; exact absurd h (by decide)
    · intro h; exact absurd h (by decide)
  · unfold ansR
    split
    · split
      · intro _; rfl
      · intro h; exact absurd h (by decide)
    · intro h; exact absurd h (by decide)
theorem flatI_set (l : List Int) (i : Nat) (v : Int) : flatI (l.set i v) = (flatI l).set i (.int .i64 v) := by simp [flatI, List.map_set]
theorem fown_set {B g i : Nat} {w : World} {xs : List Value} (h : FOwn B w (some ⟨g, 0, none⟩) xs) (v : Value) : FOwn B (w.setCell ⟨g, i, none⟩ v) (some ⟨g, 0, none⟩) (xs.set i v) := fun h0 => by
  rw [List.length_set] at h0
  obtain ⟨b, e, h1, h2, h3⟩ := h h0
  simp only [Option.some.injEq, Addr.mk.injEq, and_true] at e
  subst e
  refine ⟨g, rfl, h1, by simpa using h2, fun j u hu => ?_⟩
  by_cases hj : j = i
  · subst hj
    have hl : j < xs.length := by
      have := (List.getElem?_eq_some_iff.1 hu).1
      rwa [List.length_set] at this
    rw [List.getElem?_set_self hl] at hu
    have := h3 j _ (List.getElem?_eq_getElem hl)
    refine ⟨?_, by rw [World.frozen?_setCell]; exact this.2⟩
    rw [World.cell?_setCell_same w ⟨g, j, none⟩ v this.1]
    exact hu
  · rw [List.getElem?_set_ne (fun e => hj e.symm)] at hu
    have := h3 j u hu
    refine ⟨?_, by rw [World.frozen?_setCell]; exact this.2⟩
    rw [World.cell?_setCell_other _ _ _ _ (fun e => hj (by injection e with _ e2 _; exact e2.symm))]
    exact this.1
/-- Behind the store into Seen. -/
theorem endY_see {w W : World} {h k i b : Nat} {o : O14} {q : Pq} {d : Ce} {x : Pl} {ds : Int} (H : EndY w h o q d x k W) (hx : x.so = some ⟨b, 0, none⟩) (hi : i < d.seen.length) :
    Below h w (W.setCell ⟨b, i, none⟩ (.int .i64 (max (d.seen.getD i 0) ds))) ∧ Has (W.setCell ⟨b, i, none⟩ (.int .i64 (max (d.seen.getD i 0) ds))) (h + 2) (ceL ce0 pl0) ∧ Has (W.setCell ⟨b, i, none⟩ (.int .i64 (max (d.seen.getD i 0) ds))) k (ceL (seeC d ((i : Int), ds)) x) ∧ COwn (h + 3) (W.setCell ⟨b, i, none⟩ (.int .i64 (max (d.seen.getD i 0) ds))) (seeC d ((i : Int), ds)) x := by
  have hs : 0 < d.seen.length := by omega
  have hl := fown_lt H.own.1.2.2 (by rw [flatI_len]; omega) hx
  have hne := H.ne b hx hs
  have hk := H.hk
  have e9 : seeV d.seen ((i : Int), ds) = d.seen.set i (max (d.seen.getD i 0) ds) := by unfold seeV; simp
  refine ⟨H.base.setCell (p := ⟨b, i, none⟩) (by show h ≤ b; omega) _, H.res.other (by omega) _ _, ?_, ?_, ?_, ?_⟩
  · have := H.cell.other (k := b) (by omega) i (.int .i64 (max (d.seen.getD i 0) ds))
    show Has _ k [_, _, _, _, _, _, _, _, _, .slice x.so (seeV d.seen ((i : Int), ds)).length x.sc]
    rw [seeV_len]
    exact this
  · intro h0
    exact fown_apart H.own.1.1 (fun b' hb' e => by
      subst e
      have h0' : 0 < (flatE d.ents).length := h0
      rw [flatE_len] at h0'
      exact H.own.2.1 b' hx (by omega) hs hb') _ h0
  · intro h0
    exact fown_apart H.own.1.2.1 (fun b' hb' e => by
      subst e
      have h0' : 0 < (flatL d.elems).length := h0
      rw [flatL_len] at h0'
      exact H.own.2.2 b' hx (by omega) hs hb') _ h0
  · show FOwn _ _ x.so (flatI (seeV d.seen ((i : Int), ds)))
    rw [e9, flatI_set, hx]
    have := H.own.1.2.2
    rw [hx] at this
    exact fown_set this _

set_option maxHeartbeats 4000000 in
set_option maxRecDepth 100000 in
theorem app_no1 (c : Ce) (p : Pl) (o : O14) (q : Pq) (n : Int) (w : World) (hr : CRow w c p) (hf : Fit c) (hwf : Wf5 c) (ho : ORow w o q) (hs : Siz o) (hb : (cmayB c n && mayO o n) = false) :
    Calls Tryz.prog 11 #[ceV c p, oV o q, .int .i64 n] w fun e w' => ∃ x, e = .returned (.tuple #[ceV ce0 x, .int .i64 1200]) ∧ COwn w.heap.size w' ce0 x ∧ Below w.heap.size w w' := by
  have HP : Hid (Fit c ∧ Wf5 c ∧ Siz o) := ⟨hf, hwf, hs⟩
  obtain ⟨h, hh⟩ : ∃ h, w.heap.size = h := ⟨_, rfl⟩
  have H0 : Hid (Eff3 w h c p o q (((w.alloc (.cells (ceL c p).toArray 30)).alloc (.cells (oL o q).toArray 35)).alloc (.cells #[.int .i64 0, .bool false, .int .i64 0, .int .i64 0, .string ⟨#[]⟩, .int .i64 0, .int .i64 0, .slice none 0 0, .slice none 0 0, .slice none 0 0] 30))) := eff3_new hh hr ho
  rw [hh]
  clear hr hf hwf ho hs
  cases h1 : cmayB c n with
  | false =>
    clear hb
    go_enter Tryz.func11, Tryz.ntmps11
    go_upto_region 1 with fail
    generalize hW : ((w.alloc (.cells (ceL c p).toArray 30)).alloc (.cells (oL o q).toArray 35)).alloc (.cells #[.int .i64 0, .bool false, .int .i64 0, .int .i64 0, .string ⟨#[]⟩, .int .i64 0, .int .i64 0, .slice none 0 0, .slice none 0 0, .slice none 0 0] 30) = w1 at H0 ⊢
    clear hW
    try simp only [hh]
    clear hh
    have lc := ld_ce H0.out.cell
    have C1 := cmay_any c p n w1 H0.out.cr HP.out.1 HP.out.2.1
    rw [h1] at C1
    go_wp2_with (refine wpList_ldt lc rfl rfl rfl ?_)
    refine C1.mono ?_
    rintro e w2 ⟨rfl, b2⟩
    have H9 : Hid (Below h w w2 ∧ Has w2 (h + 2) (ceL ce0 pl0)) := ⟨(H0.out.later b2).base, (H0.out.later b2).res⟩
    clear b2 H0 lc C1
    obtain ⟨s0, s1, s2, s3, s4, s5, s6, s7, s8, s9⟩ := H9.out.2.ten
    obtain ⟨z0, z1, z2, z3, z4, z5, z6, z7, z8, z9⟩ := H9.out.2.tenf
    go_wp2_with fail
    exact bodyPost_ret (ret_cell2 rfl rfl rfl (H9.out.2.put10 _ _ _ _ _ _ _ _ _ _)) rfl ⟨pl0, rfl, own_none0 _ _, below_put10 H9.out.1 (by omega) _ _ _ _ _ _ _ _ _ _⟩
  | true =>
    have h2 : mayO o n = false := by rw [h1] at hb; simpa using hb
    clear hb
    go_enter Tryz.func11, Tryz.ntmps11
    go_upto_region 1 with fail
    generalize hW : ((w.alloc (.cells (ceL c p).toArray 30)).alloc (.cells (oL o q).toArray 35)).alloc (.cells #[.int .i64 0, .bool false, .int .i64 0, .int .i64 0, .string ⟨#[]⟩, .int .i64 0, .int .i64 0, .slice none 0 0, .slice none 0 0, .slice none 0 0] 30) = w1 at H0 ⊢
    clear hW
    try simp only [hh]
    clear hh
    have lc := ld_ce H0.out.cell
    have C1 := cmay_any c p n w1 H0.out.cr HP.out.1 HP.out.2.1
    rw [h1] at C1
    go_wp2_with (refine wpList_ldt lc rfl rfl rfl ?_)
    refine C1.mono ?_
    rintro e w2 ⟨rfl, b2⟩
    have H2 : Hid (Eff3 w h c p o q w2) := H0.out.later b2
    clear b2 H0 lc C1
    have lo := ld_op H2.out.op
    have C2 := omay_any o q n w2 H2.out.orw HP.out.2.2
    rw [h2] at C2
    go_wp2_with (refine wpList_ld lo rfl rfl rfl ?_)
    refine C2.mono ?_
    rintro e w3 ⟨rfl, b3⟩
    have H9 : Hid (Below h w w3 ∧ Has w3 (h + 2) (ceL ce0 pl0)) := ⟨(H2.out.later b3).base, (H2.out.later b3).res⟩
    clear b3 H2 lo C2
    obtain ⟨s0, s1, s2, s3, s4, s5, s6, s7, s8, s9⟩ := H9.out.2.ten
    obtain ⟨z0, z1, z2, z3, z4, z5, z6, z7, z8, z9⟩ := H9.out.2.tenf
    go_wp2_with fail
    exact bodyPost_ret (ret_cell2 rfl rfl rfl (H9.out.2.put10 _ _ _ _ _ _ _ _ _ _)) rfl ⟨pl0, rfl, own_none0 _ _, below_put10 H9.out.1 (by omega) _ _ _ _ _ _ _ _ _ _⟩

set_option maxHeartbeats 4000000 in
set_option maxRecDepth 100000 in
theorem app_no2 (c : Ce) (p : Pl) (o : O14) (q : Pq) (n : Int) (w : World) (hr : CRow w c p) (hf : Fit c) (hwf : Wf5 c) (ho : ORow w o q) (hs : Siz o) (hm : cmayB c n = true) (hmo : mayO o n = true) (hk : kindN o.kind ≠ c.kind) :
    Calls Tryz.prog 11 #[ceV c p, oV o q, .int .i64 n] w fun e w' => ∃ x, e = .returned (.tuple #[ceV ce0 x, .int .i64 1201]) ∧ COwn w.heap.size w' ce0 x ∧ Below w.heap.size w w' := by
  have HP : Hid (Fit c ∧ Wf5 c ∧ Siz o) := ⟨hf, hwf, hs⟩
  obtain ⟨h, hh⟩ : ∃ h, w.heap.size = h := ⟨_, rfl⟩
  have H0 : Hid (Eff3 w h c p o q (((w.alloc (.cells (ceL c p).toArray 30)).alloc (.cells (oL o q).toArray 35)).alloc (.cells #[.int .i64 0, .bool false, .int .i64 0, .int .i64 0, .string ⟨#[]⟩, .int .i64 0, .int .i64 0, .slice none 0 0, .slice none 0 0, .slice none 0 0] 30))) := eff3_new hh hr ho
  rw [hh]
  obtain ⟨kn, hkn⟩ : ∃ k, kindN o.kind = k := ⟨_, rfl⟩
  obtain ⟨ck, hck⟩ : ∃ k, c.kind = k := ⟨_, rfl⟩
  have HK : Hid (kindN o.kind = kn ∧ c.kind = ck) := ⟨hkn, hck⟩
  have hq : (kn != ck) = true := by rw [hkn, hck] at hk; simpa using hk
  clear hr hf hwf ho hs hk hkn hck
  go_enter Tryz.func11, Tryz.ntmps11
  go_upto_region 1 with fail
  generalize hW : ((w.alloc (.cells (ceL c p).toArray 30)).alloc (.cells (oL o q).toArray 35)).alloc (.cells #[.int .i64 0, .bool false, .int .i64 0, .int .i64 0, .string ⟨#[]⟩, .int .i64 0, .int .i64 0, .slice none 0 0, .slice none 0 0, .slice none 0 0] 30) = w1 at H0 ⊢
  clear hW
  try simp only [hh]
  clear hh
  have lc := ld_ce H0.out.cell
  have C1 := cmay_any c p n w1 H0.out.cr HP.out.1 HP.out.2.1
  rw [hm] at C1
  go_wp2_with (refine wpList_ldt lc rfl rfl rfl ?_)
  refine C1.mono ?_
  rintro e w2 ⟨rfl, b2⟩
  have H2 : Hid (Eff3 w h c p o q w2) := H0.out.later b2
  clear b2 H0 lc C1
  have lo := ld_op H2.out.op
  have C2 := omay_any o q n w2 H2.out.orw HP.out.2.2
  rw [hmo] at C2
  go_wp2_with (refine wpList_ld lo rfl rfl rfl ?_)
  refine C2.mono ?_
  rintro e w3 ⟨rfl, b3⟩
  have H3 : Hid (Eff3 w h c p o q w3) := H2.out.later b3
  clear b3 H2 lo C2
  go_upto_region 3 with fail
  obtain ⟨kk, hkk⟩ : ∃ kk, w3.heap.size = kk := ⟨_, rfl⟩
  have hlt : h < kk := by have := H3.out.res.1; omega
  have hlt1 : h + 1 < kk := by have := H3.out.res.1; omega
  have hne : Nonempty (MW kk w3) := MW.some hkk
  have g0 : ∀ r : MW kk w3, r.w.cell? ⟨h, 0, none⟩ = some (.int .i64 ck) := MW.has H3.out.cell hlt (by rw [← HK.out.2]; rfl)
  have lo := ld_mild H3.out.op hlt1
  have C3 : ∀ r : MW kk w3, Calls Tryz.prog 28 #[oV o q] r.w fun e w' => e = .returned (.int .i64 kn) ∧ Below r.w.heap.size r.w w' := fun r => HK.out.1 ▸ okind_any o q r.w
  have HG : Hid (∀ rq : MW kk w3, Eff3 w h c p o q rq.w) := fun rq => H3.out.later (hkk.symm ▸ rq.h.1)
  refine wp_region_mild hkk (by kernel_rfl) (by kernel_rfl) ?_
  refine wpQuiet_ld lo rfl rfl rfl ?_
  try simp only [Act.put, List.setIfInBounds_toArray, List.set_cons_zero, List.set_cons_succ]
  repeat (go_big_quiet_step ((first | (go_at_call 28; refine (C3 _).mono ?_; rintro e w2 ⟨rfl, b⟩; exact ⟨rfl, MW.later _ b⟩))))
  refine wpQuiet_nil ?_
  intro _ hw'
  obtain ⟨rq, rfl⟩ := hw'
  have H9 : Hid (Below h w rq.w ∧ Has rq.w (h + 2) (ceL ce0 pl0)) := ⟨(HG.out rq).base, (HG.out rq).res⟩
  clear g0 lo C3 H3 HG
  generalize rq.w = w4 at H9 ⊢
  clear rq hne
  clear hkk hlt hlt1
  obtain ⟨s0, s1, s2, s3, s4, s5, s6, s7, s8, s9⟩ := H9.out.2.ten
  obtain ⟨z0, z1, z2, z3, z4, z5, z6, z7, z8, z9⟩ := H9.out.2.tenf
  go_wp2_with fail
  exact bodyPost_ret (ret_cell2 rfl rfl rfl (H9.out.2.put10 _ _ _ _ _ _ _ _ _ _)) rfl ⟨pl0, rfl, own_none0 _ _, below_put10 H9.out.1 (by omega) _ _ _ _ _ _ _ _ _ _⟩

end Go.Proofs.YtgkddimijmnpcaaGreatDoor

/-
  A cell that comes as an argument, and its elements' dots are of machine numbers.
-/
namespace Go.Proofs.YtgkddimijmnpcaaGreatDoor
open Go.ChangeShapes Go.WideShapes Go.ChangeAt Go.RowKit
set_option linter.unusedVariables false
set_option linter.unusedSimpArgs false

section
variable {H : Type} {enc : TypeId × Value → H} {w : World}

theorem wf_i64 {y : Int} (h : (Lit.int .i64 y).wf = true) : -9223372036854775808 ≤ y ∧ y ≤ 9223372036854775807 := by
  simp only [Lit.wf, IntKind.min, IntKind.max, IntKind.signed, IntKind.bits, Bool.and_eq_true, decide_eq_true_eq, if_true, Bool.false_eq_true, if_false] at h
  omega
abbrev L5w := {x : L5 // (-9223372036854775808 ≤ x.node ∧ x.node ≤ 9223372036854775807) ∧ (-9223372036854775808 ≤ x.seq ∧ x.seq ≤ 9223372036854775807)}
theorem dec_elemW (fuel : Nat) (cs : List Value) (x : DataW H × List MemPlace) (h : DataW.trod enc Tryz.prog w 0 (fun _ => true) true fuel 59 cs = some x) (hl : cs.length = 5) : ∃ a : L5w, cs = l5 a.1 ∧ ∀ k ∈ [a.1.val.size], k ∈ x.1.weights Tryz.prog 59 := by
  have c1 : Tryz.prog.cellsOf 32 = 2 := by kernel_rfl
  have c2 : Tryz.prog.cellsOf 9 = 1 := by kernel_rfl
  have c3 : Tryz.prog.cellsOf 3 = 1 := by kernel_rfl
  have c4 : Tryz.prog.cellsOf 4 = 1 := by kernel_rfl
  match cs, hl with
  | [a0, a1, a2, a3, a4], _ =>
    obtain ⟨xs, n, _, rfl, _, hxl, hf⟩ := DataW.trod_struct Tryz.underlying59 h
    match xs, hxl with
    | [y0, y1, y2, y3], _ =>
      have g0 := hf 0 _ rfl
      have g1 := hf 1 _ rfl
      have g2 := hf 2 _ rfl
      have g3 := hf 3 _ rfl
      simp [c1, c2, c3, c4] at g0 g1 g2 g3
      obtain ⟨y, z, rfl, rfl, hy, hz⟩ := dec_two Tryz.underlying32 rfl rfl rfl rfl g0
      obtain ⟨u, hu, _, _⟩ := DataW.trod_int Tryz.underlying3 g1
      obtain ⟨s, hs, rfl, _⟩ := DataW.trod_string Tryz.underlying9 g2
      obtain ⟨b, hb, _⟩ := DataW.trod_bool Tryz.underlying4 g3
      simp only [List.cons.injEq, and_true] at hu hs hb
      subst hu hs hb
      refine ⟨⟨⟨y, z, u, s, b⟩, wf_i64 hy, wf_i64 hz⟩, rfl, fun k hk => ?_⟩
      simp only [List.mem_singleton] at hk
      subst hk
      simp only [DataW.weights, Tryz.underlying59]
      exact DataW.weights_mem_each (j := 2) (t := 9) (d := .lit (.string s.data.toList)) rfl rfl _ (by simp [DataW.weights])

set_option maxRecDepth 100000 in
/-- A cell that comes as an argument. -/
theorem open_cellW {base : Nat} {v : Value} {d : DataW H} {p : List MemPlace} (ok : Value.okWide Tryz.prog w .any base 30 v) (h : DataW.Trod enc Tryz.prog w 0 (fun _ => true) true 30 v d p) (hw : ∀ n, n ∈ d.weights Tryz.prog 30 → n ≤ reachBytes) :
    ∃ (c : Ce) (q : Pl), v = ceV c q ∧ c.ents.length ≤ q.ec ∧ c.elems.length ≤ q.lc ∧ CRow w c q ∧ Fit c ∧ Wf5 c := by
  have c0 : Tryz.prog.cellsOf 30 = 10 := by kernel_rfl
  have c1 : Tryz.prog.cellsOf 23 = 2 := by kernel_rfl
  have c2 : Tryz.prog.cellsOf 25 = 2 := by kernel_rfl
  have c3 : Tryz.prog.cellsOf 3 = 1 := by kernel_rfl
  have c4 : Tryz.prog.cellsOf 4 = 1 := by kernel_rfl
  have c5 : Tryz.prog.cellsOf 9 = 1 := by kernel_rfl
  have c6 : Tryz.prog.cellsOf 26 = 1 := by kernel_rfl
  have c7 : Tryz.prog.cellsOf 27 = 1 := by kernel_rfl
  have c8 : Tryz.prog.cellsOf 28 = 1 := by kernel_rfl
  obtain ⟨cs, rfl, hcs⟩ := okWide_struct Tryz.underlying30 ok
  rw [c0] at hcs
  obtain ⟨fuel, hf⟩ := h
  obtain ⟨xs, n, _, hx, _, hxl, hg⟩ := DataW.trod_struct Tryz.underlying30 hf
  obtain ⟨l⟩ := cs
  match l, hcs, xs, hxl with
  | [a0, a1, a2, a3, a4, a5, a6, a7, a8, a9], _, [y0, y1, y2, y3, y4, y5, y6, y7], _ =>
    have g0 := hg 0 _ rfl
    have g1 := hg 1 _ rfl
    have g2 := hg 2 _ rfl
    have g3 := hg 3 _ rfl
    have g4 := hg 4 _ rfl
    have g5 := hg 5 _ rfl
    have g6 := hg 6 _ rfl
    have g7 := hg 7 _ rfl
    simp [Value.cells, c1, c2, c3, c4, c5, c6, c7, c8] at g0 g1 g2 g3 g4 g5 g6 g7
    obtain ⟨kind, hk, _, _⟩ := DataW.trod_int Tryz.underlying3 g0
    obtain ⟨b, hb, _⟩ := DataW.trod_bool Tryz.underlying4 g1
    obtain ⟨t, nd, rfl, rfl, _, _⟩ := dec_two Tryz.underlying23 rfl rfl rfl rfl g2
    obtain ⟨s, hs, hys, _⟩ := DataW.trod_string Tryz.underlying9 g3
    obtain ⟨re, im, rfl, rfl, _, _⟩ := dec_two Tryz.underlying25 rfl rfl rfl rfl g4
    obtain ⟨d5, p5⟩ := y5
    obtain ⟨d6, p6⟩ := y6
    obtain ⟨d7, p7⟩ := y7
    obtain ⟨es, eo, ec, rfl, le5, re5, k5⟩ := rows_trodC ⟨0, 0, ByteArray.empty⟩ e3 3 32 (fun _ => rfl) (fun a => [a.val.size]) Tryz.underlying26 (by kernel_rfl) (by decide) (by kernel_rfl) dec_entry g5
    obtain ⟨ls, lo, lc, rfl, le6, re6, k6⟩ := rows_trodC (⟨⟨0, 0, 0, ByteArray.empty, false⟩, by decide, by decide⟩ : L5w) (fun a => l5 a.1) 5 48 (fun _ => rfl) (fun a => [a.1.val.size]) Tryz.underlying27 (by kernel_rfl) (by decide) (by kernel_rfl) dec_elemW g6
    obtain ⟨is, so, sc, rfl, re7, k7⟩ := rows_trod (0 : Int) (fun a => [.int .i64 a]) 1 8 (fun _ => rfl) (fun _ => []) Tryz.underlying28 (by kernel_rfl) (by decide) (by kernel_rfl) dec_int g7
    simp only [List.cons.injEq, and_true] at hk hb hs
    subst hk hb hs
    simp only [Prod.mk.injEq] at hx
    have hall : ∀ (j : Nat) (tt : TypeId) (dd : DataW H), ([3, 4, 23, 9, 25, 26, 27, 28] : List TypeId)[j]? = some tt → ([y0.1, y1.1, y2.1, y3.1, y4.1, d5, d6, d7] : List (DataW H))[j]? = some dd → ∀ k ∈ dd.weights Tryz.prog tt, k ≤ 140737488351232 := fun j tt dd hj hd k hk => by
      have h1 := hw k (by
        rw [hx.1]
        simp only [DataW.weights, Tryz.underlying30]
        exact DataW.weights_mem_each hj hd k hk)
      unfold reachBytes at h1
      omega
    have kk5 := k5 140737488351232 (hall 5 _ _ rfl rfl)
    have kk6 := k6 140737488351232 (hall 6 _ _ rfl rfl)
    have kk7 := k7 140737488351232 (hall 7 _ _ rfl rfl)
    refine ⟨⟨kind, b, t, nd, s, re, im, es, ls.map (·.1), is⟩, ⟨eo, ec, lo, lc, so, sc⟩, by simp, le5, by simpa using le6, ⟨re5, ?_, ?_⟩, ⟨kk5.1, by simpa using kk6.1, kk7.1, ?_, fun i x hx => kk5.2 i x hx _ (List.mem_singleton.2 rfl), fun i x hx => ?_⟩, fun x hx => ?_⟩
    · show FRow w lo (flatL (ls.map (·.1)))
      have e : flatL (ls.map (·.1)) = ls.flatMap fun a => l5 a.1 := by simp [flatL, List.flatMap_map]
      rw [e]
      exact re6
    · show FRow w so (flatI is)
      rw [flatI_flat]; exact re7
    · exact hall 3 _ _ rfl rfl s.size (by rw [hys]; simp [DataW.weights])
    · simp only [List.getElem?_map, Option.map_eq_some_iff] at hx
      obtain ⟨y, hy, rfl⟩ := hx
      exact kk6.2 i y hy _ (List.mem_singleton.2 rfl)
    · simp only [List.mem_map] at hx
      obtain ⟨y, _, rfl⟩ := hx
      exact y.2

end

end Go.Proofs.YtgkddimijmnpcaaGreatDoor

