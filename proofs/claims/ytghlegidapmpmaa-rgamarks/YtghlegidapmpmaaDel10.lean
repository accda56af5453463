/-
  slices.DeleteFunc at a row of elements of the call's own, by contract.
-/
import Derived.Test.YtghlegidapmpmaaIns10
import Derived.Lib.SliceRun
import Derived.Deep.Cut
import Derived.Deep.CutRange
namespace Go.Proofs.Ytghlegidapmpmaa
open Go.RowKit Go.Shelf
set_option linter.unusedVariables false
set_option linter.unusedSimpArgs false

theorem flatL_set (l : List L5) (i : Nat) (x : L5) : flatL (l.set i x) = (((((flatL l).set (i * 5) (.int .i64 x.node)).set (i * 5 + 1) (.int .i64 x.seq)).set (i * 5 + 2) (.int .i64 x.time)).set (i * 5 + 3) (.string x.val)).set (i * 5 + 4) (.bool x.gone) := by
  induction l generalizing i with
  | nil => simp [flatL]
  | cons a l ih =>
    cases i with
    | zero => simp [flatL]
    | succ i =>
      have := ih i
      have e : (i + 1) * 5 = i * 5 + 1 + 1 + 1 + 1 + 1 := by omega
      simp only [flatL, l5, List.flatMap_cons, List.set_cons_succ, e, List.cons_append, List.nil_append] at this ⊢
      rw [this]

/-- Five cells stored. -/
abbrev put5 (w : World) (g o : Nat) (x : L5) : World := ((((w.setCell ⟨g, o, none⟩ (.int .i64 x.node)).setCell ⟨g, o + 1, none⟩ (.int .i64 x.seq)).setCell ⟨g, o + 2, none⟩ (.int .i64 x.time)).setCell ⟨g, o + 3, none⟩ (.string x.val)).setCell ⟨g, o + 4, none⟩ (.bool x.gone)

theorem own_put5 {C g n c : Nat} {e : TypeId} {w : World} {l : List L5} (h : w.ownsRow C e 5 (.slice (some ⟨g, 0, none⟩) n c) n (flatL l)) (i : Nat) (x : L5) : (put5 w g (i * 5) x).ownsRow C e 5 (.slice (some ⟨g, 0, none⟩) n c) n (flatL (l.set i x)) := by
  rw [flatL_set]
  exact ((((((h.stored (i * 5) _).1).stored (i * 5 + 1) _).1.stored (i * 5 + 2) _).1.stored (i * 5 + 3) _).1.stored (i * 5 + 4) _).1

/-- What the row holds while it is gone through: what is kept of the first j, anything, the rest. -/
def KeptL (p : L5 → Bool) (l m : List L5) (i j : Nat) : Prop := m.length = l.length ∧ i < j ∧ j ≤ l.length ∧ m.take i = (l.take j).filter (fun x => !p x) ∧ m.drop j = l.drop j

theorem keptL_skip {p : L5 → Bool} {l m : List L5} {i j : Nat} (h : KeptL p l m i j) {x : L5} (hx : l[j]? = some x) (hp : p x = true) : KeptL p l m i (j + 1) := by
  obtain ⟨h1, h2, h3, h4, h5⟩ := h
  have hj := (List.getElem?_eq_some_iff.1 hx).1
  refine ⟨h1, by omega, by omega, ?_, ?_⟩
  · rw [h4, List.take_add_one, hx]
    simp [List.filter_append, hp]
  · have := congrArg (List.drop 1) h5
    simpa [List.drop_drop, Nat.add_comm] using this

theorem keptL_keep {p : L5 → Bool} {l m : List L5} {i j : Nat} (h : KeptL p l m i j) {x : L5} (hx : l[j]? = some x) (hp : p x = false) : KeptL p l (m.set i x) (i + 1) (j + 1) := by
  obtain ⟨h1, h2, h3, h4, h5⟩ := h
  have hj := (List.getElem?_eq_some_iff.1 hx).1
  refine ⟨by simpa using h1, by omega, by omega, ?_, ?_⟩
  · have e : (m.set i x).take (i + 1) = m.take i ++ [x] := by
      rw [List.take_add_one, List.getElem?_set_self (by omega), List.take_set, List.set_eq_of_length_le (by simp; omega)]
      rfl
    rw [e, h4, List.take_add_one, hx]
    simp [List.filter_append, hp]
  · have := congrArg (List.drop 1) h5
    rw [List.drop_set_of_lt (by omega)]
    simpa [List.drop_drop, Nat.add_comm] using this

theorem zero5_len (n : Nat) : (Builtin.zeroCells (.agg #[.int .i64 0, .int .i64 0, .int .i64 0, .string ByteArray.empty, .bool false] : Value).cells n).toList.length = n * 5 := by
  simp [Builtin.zeroCells, Value.cells]

theorem zero5_one (n : Nat) : ∀ v ∈ (Builtin.zeroCells (.agg #[.int .i64 0, .int .i64 0, .int .i64 0, .string ByteArray.empty, .bool false] : Value).cells n).toList, v.oneCell' = true := by
  intro v hv
  simp only [Builtin.zeroCells, Value.cells, Array.toList_map, List.mem_map] at hv
  obtain ⟨k, _, rfl⟩ := hv
  have : k % 5 < 5 := Nat.mod_lt _ (by decide)
  have h3 : (#[.int .i64 0, .int .i64 0, .int .i64 0, .string ByteArray.empty, .bool false] : Array Value).size = 5 := rfl
  rw [h3]
  match k % 5, this with
  | 0, _ => rfl
  | 1, _ => rfl
  | 2, _ => rfl
  | 3, _ => rfl
  | 4, _ => rfl

set_option maxHeartbeats 1000000 in
set_option maxRecDepth 100000 in
theorem deleteL_any (p : L5 → Bool) (g : Nat) (lb : Array Value) (eg : ∀ args w, (callFunc g args).run Try.prog w = .ok (.enter g args) w) (B C : Nat) (ao : Option Addr) (ca : Nat) (l : List L5) (w : World) (hs : w.ownsRow C 38 5 (.slice ao l.length ca) l.length (flatL l)) (hBC : B ≤ C) (hC : C ≤ w.heap.size) (hp : PredL B w g lb p) :
    Calls Try.prog 21 #[.slice ao l.length ca, .func (.func g) #[] lb] w fun e w' => e = .returned (.slice ao (l.filter fun x => !p x).length ca) ∧ FOwn C w' ao (flatL (l.filter fun x => !p x)) ∧ w.grownBy w' (Value.slice ao l.length ca).ownBlock := by
  have CI := indexL_any p g lb eg B ao ca l w (own_row hs).row (Nat.le_trans (own_cap hs).1 (own_cap hs).2) (Nat.le_trans hBC hC) hp
  have HS : Hid (w.ownsRow C 38 5 (.slice ao l.length ca) l.length (flatL l) ∧ B ≤ C ∧ C ≤ w.heap.size ∧ PredL B w g lb p) := ⟨hs, hBC, hC, hp⟩
  have hcap := (own_cap hs).1
  have hcap2 := (own_cap hs).2
  unfold maxLen at hcap2
  obtain ⟨F, hF⟩ : ∃ F, F = l.filter (fun x => !p x) := ⟨_, rfl⟩
  rw [← hF]
  have HF : Hid (F = l.filter (fun x => !p x)) := hF
  clear hs hBC hC hp hF
  go_enter Try.func21, Try.ntmps21
  go_wp2_with fail
  refine CI.mono ?_
  rintro e w1 ⟨r, rfl, hpl, b1⟩
  clear CI
  rcases hpl with ⟨rfl, hall⟩ | ⟨k0, rfl, hk0, ⟨x0, hx0, hpx0⟩, hall⟩
  · have HA : Hid (F = l) := by
      show F = l
      rw [HF.out, List.filter_eq_self]
      intro x hx
      obtain ⟨j, hj⟩ := List.getElem?_of_mem hx
      simp [hall j x hj]
    clear hall
    go_wp2
    go_ret
    refine ⟨?_, ?_, gb_below b1 _⟩
    · rw [HA.out]; rfl
    · rw [HA.out]; exact own_row (own_later HS.out.1 b1)
  · obtain ⟨gq, hgq⟩ : ∃ gq, ao = some ⟨gq, 0, none⟩ := by
      obtain ⟨b, e, _⟩ := own_row HS.out.1 (by rw [flatL_len]; omega)
      exact ⟨b, e⟩
    subst hgq
    have H0 : Hid (w1.ownsRow C 38 5 (.slice (some ⟨gq, 0, none⟩) l.length ca) l.length (flatL l) ∧ KeptL p l l k0 (k0 + 1) ∧ w.grownBy w1 (some gq)) := by
      refine ⟨own_later HS.out.1 b1, ⟨rfl, by omega, by omega, ?_, rfl⟩, gb_below b1 _⟩
      rw [List.take_add_one, hx0, List.filter_append]
      have e1 : (l.take k0).filter (fun x => !p x) = l.take k0 := by
        rw [List.filter_eq_self]
        intro x hx
        obtain ⟨j, hj⟩ := List.getElem?_of_mem hx
        rw [List.getElem?_take] at hj
        split at hj
        · simp [hall j x (by omega) hj]
        · simp at hj
      rw [e1]
      simp [hpx0]
    have hkn : ((k0 : Int) == -1) = false := beq_eq_false_iff_ne.2 (by omega)
    clear hx0 hpx0 hall b1
    go_wp2_with fail
    go_loopg [5, 6, 7] l.length (fun n s5 s6 _ wr => ∃ (i j : Nat) (m : List L5), s5 = .int .i64 i ∧ s6 = .int .i64 j ∧ l.length - j ≤ n ∧ i < j ∧ j ≤ l.length ∧ Hid (wr.ownsRow C 38 5 (.slice (some ⟨gq, 0, none⟩) l.length ca) l.length (flatL m) ∧ KeptL p l m i j ∧ w.grownBy wr (some gq)))
    case atStart => exact ⟨k0, k0 + 1, l, rfl, by go_num, by omega, by omega, by omega, H0.out⟩
    case round =>
      clear H0
      obtain ⟨i, j, m, rfl, rfl, hg, hij, hjl, HK⟩ := hrel
      by_cases hj : j < l.length
      · have hdj : decide ((j : Int) < (l.length : Int)) = true := by simpa using hj
        obtain ⟨x, hx⟩ : ∃ x, l[j]? = some x := ⟨_, List.getElem?_eq_getElem hj⟩
        have hmx : m[j]? = some x := by
          have := congrArg (fun t => t[0]?) HK.out.2.1.2.2.2.2
          simpa [hx] using this
        obtain ⟨y, hy⟩ : ∃ y, m[i]? = some y := ⟨_, List.getElem?_eq_getElem (by have := HK.out.2.1.1; omega)⟩
        have hfl : (flatL m).length = l.length * 5 := by rw [flatL_len, HK.out.2.1.1]
        obtain ⟨g0, g1, g2, g3, g4⟩ := flatL_at m j hmx
        obtain ⟨y0, y1, y2, y3, y4⟩ := flatL_at m i hy
        have k0 := (HK.out.1.cellAt (j * 5) (by omega)).trans g0
        have k1 := (HK.out.1.cellAt (j * 5 + 1) (by omega)).trans g1
        have k2 := (HK.out.1.cellAt (j * 5 + 2) (by omega)).trans g2
        have k3 := (HK.out.1.cellAt (j * 5 + 3) (by omega)).trans g3
        have k4 := (HK.out.1.cellAt (j * 5 + 4) (by omega)).trans g4
        obtain ⟨n1, hn1⟩ : ∃ n, wr.heap.size = n := ⟨_, rfl⟩
        have hgl : gq < n1 := by have := (HK.out.1.lt gq rfl).2; omega
        have HX : Hid (l[j]? = some x ∧ wr.heap.size = n1) := ⟨hx, hn1⟩
        have hal : Below wr.heap.size wr (wr.alloc (.cells #[.int .i64 x.node, .int .i64 x.seq, .int .i64 x.time, .string x.val, .bool x.gone] 38)) := (Below.refl _ _).alloc (Nat.le_refl _) _
        have HV : Hid (Has (wr.alloc (.cells #[.int .i64 x.node, .int .i64 x.seq, .int .i64 x.time, .string x.val, .bool x.gone] 38)) n1 (l5 x)) := hn1 ▸ has_new wr (l5 x) _
        have HB : Hid (Below C w wr) := gb_to HK.out.2.2 HS.out.2.2.1 (fun k hk => by simp only [Option.some.injEq] at hk; subst hk; exact (HK.out.1.lt gq rfl).1)
        have hCn : C ≤ n1 := by have := HS.out.2.2.1; have := HK.out.2.2.size; omega
        have CP := HS.out.2.2.2 (wr.alloc (.cells #[.int .i64 x.node, .int .i64 x.seq, .int .i64 x.time, .string x.val, .bool x.gone] 38)) x ((HB.out.mono HS.out.2.1).trans (hal.mono (by have := HS.out.2.1; omega))) (by have := HS.out.2.1; simp; omega)
        have HY : Hid ((flatL m)[i * 5]? = some (.int .i64 y.node) ∧ (flatL m)[i * 5 + 1]? = some (.int .i64 y.seq) ∧ (flatL m)[i * 5 + 2]? = some (.int .i64 y.time) ∧ (flatL m)[i * 5 + 3]? = some (.string y.val) ∧ (flatL m)[i * 5 + 4]? = some (.bool y.gone)) := ⟨y0, y1, y2, y3, y4⟩
        have HL : Hid (Below wr.heap.size wr (wr.alloc (.cells #[.int .i64 x.node, .int .i64 x.seq, .int .i64 x.time, .string x.val, .bool x.gone] 38))) := hal
        clear hx hmx g0 g1 g2 g3 g4 y0 y1 y2 y3 y4 hal hfl hy
        cases hq : p x with
        | true =>
          rw [hq] at CP
          have HQ : Hid (p x = true) := hq
          clear hq
          go_wp2_with (go_at_fn g; refine CP.mono ?_; rintro e w2 ⟨rfl, b2⟩)
          go_roundg (gk - 1)
          case measure => omega
          case rel =>
            have B2 := thenB HL.out b2
            exact ⟨i, j + 1, m, rfl, by go_num, by omega, by omega, by omega, own_later HK.out.1 B2, keptL_skip HK.out.2.1 HX.out.1 HQ.out, gb_trans HK.out.2.2 (gb_below B2 _)⟩
        | false =>
          rw [hq] at CP
          have HQ : Hid (p x = false) := hq
          clear hq
          go_upto_region 9 with (go_at_fn g; refine CP.mono ?_; rintro e w2 ⟨rfl, b2⟩)
          have B2 := thenB HL.out b2
          have H2 : Hid (w2.ownsRow C 38 5 (.slice (some ⟨gq, 0, none⟩) l.length ca) l.length (flatL m) ∧ w.grownBy w2 (some gq)) := ⟨own_later HK.out.1 B2, gb_trans HK.out.2.2 (gb_below B2 _)⟩
          have HV2 : Hid (Has w2 n1 (l5 x)) := HV.out.later b2
          have v0 := HV2.out.at 0 rfl
          have v1 := HV2.out.at 1 rfl
          have v2 := HV2.out.at 2 rfl
          have v3 := HV2.out.at 3 rfl
          have v4 := HV2.out.at 4 rfl
          have s0 := (H2.out.1.cellAt (i * 5) (by omega)).trans HY.out.1
          have s1 := (H2.out.1.cellAt (i * 5 + 1) (by omega)).trans HY.out.2.1
          have s2 := (H2.out.1.cellAt (i * 5 + 2) (by omega)).trans HY.out.2.2.1
          have s3 := (H2.out.1.cellAt (i * 5 + 3) (by omega)).trans HY.out.2.2.2.1
          have s4 := (H2.out.1.cellAt (i * 5 + 4) (by omega)).trans HY.out.2.2.2.2
          have z0 := H2.out.1.frozenAt (i * 5)
          have z1 := H2.out.1.frozenAt (i * 5 + 1)
          have z2 := H2.out.1.frozenAt (i * 5 + 2)
          have z3 := H2.out.1.frozenAt (i * 5 + 3)
          have z4 := H2.out.1.frozenAt (i * 5 + 4)
          have hil : (i : Int) < (l.length : Int) := by omega
          have HCg : Hid (C ≤ gq) := (H2.out.1.lt gq rfl).1
          clear b2 B2 CP k0 k1 k2 k3 k4 HV hn1
          go_wp2
          go_roundg (gk - 1)
          case measure => omega
          case rel =>
            exact ⟨i + 1, j + 1, m.set i x, by go_num, by go_num, by omega, by omega, by omega, own_put5 H2.out.1 i x, keptL_keep HK.out.2.1 HX.out.1 HQ.out, gb_set (gb_set (gb_set (gb_set (gb_set H2.out.2 _ _) _ _) _ _) _ _) _ _⟩
      · obtain rfl : j = l.length := by omega
        have hdj : decide ((l.length : Int) < (l.length : Int)) = false := by simp
        have hci : ¬ (ca = i) := by omega
        have HCg : Hid (C ≤ gq) := (HK.out.1.lt gq rfl).1
        have hfm : (flatL m).length = l.length * 5 := by rw [flatL_len, HK.out.2.1.1]
        obtain ⟨W', hW'⟩ : ∃ W', W' = wr.setCells gq (i * 5) (Builtin.zeroCells (.agg #[.int .i64 0, .int .i64 0, .int .i64 0, .string ByteArray.empty, .bool false] : Value).cells (l.length - i)).toList := ⟨_, rfl⟩
        have hcl : ∀ ty, (Builtin.clear_ #[29] ty #[.slice (some ⟨gq, i * 5, none⟩) (l.length - i) (ca - i)]).run Try.prog wr = .ok (.tuple #[]) W' := fun ty => by
          rw [hW']
          refine run_clear_k wr 29 38 ty _ Try.underlying29 Try.zeroValue38 gq (i * 5) _ _ (by omega) (zero5_one _) (fun t ht => ?_) (fun t ht => HK.out.1.frozenAt _)
          have ht := Nat.lt_of_lt_of_eq ht (zero5_len _)
          rw [HK.out.1.cellAt _ (by omega), List.getElem?_eq_getElem (by omega)]; rfl
        have HE : Hid (FOwn C W' (some ⟨gq, 0, none⟩) (flatL F) ∧ w.grownBy W' (some gq) ∧ F.length = i) := by
          have eF : F = m.take i := by
            rw [HF.out, HK.out.2.1.2.2.2.1, List.take_length]
          refine ⟨fun _ => ⟨gq, rfl, HCg.out, ?_, fun k u hu => ⟨?_, ?_⟩⟩, ?_, ?_⟩
          · rw [hW', size_setCells]; exact (HK.out.1.lt gq rfl).2
          · have hk := (List.getElem?_eq_some_iff.1 hu).1
            rw [eF, flatL_take, List.getElem?_take] at hu
            split at hu
            · rw [hW', World.cell?_setCells_out gq _ _ _ _ (fun _ _ => Or.inl (by assumption)), HK.out.1.cellAt _ (by omega)]
              exact hu
            · simp at hu
          · rw [hW', World.frozen?_setCells]; exact HK.out.1.frozenAt _
          · rw [hW']; exact gb_setCells _ _ HK.out.2.2
          · rw [eF, List.length_take, HK.out.2.1.1]; omega
        clear hW' hfm
        go_wp2
        go_ret
        exact ⟨by rw [HE.out.2.2]; rfl, HE.out.1, HE.out.2.1⟩

end Go.Proofs.Ytghlegidapmpmaa
