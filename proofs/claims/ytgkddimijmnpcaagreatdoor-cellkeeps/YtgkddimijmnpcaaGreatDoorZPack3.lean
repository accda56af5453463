/-
  Put, Drop, Dots and the document's own, whatever comes.
-/
import Derived.Test.YtgkddimijmnpcaaGreatDoorZRefPut9
import Derived.Test.YtgkddimijmnpcaaGreatDoorZPack2
import Derived.Test.YtgkddimijmnpcaaGreatDoorZPack1
import Derived.Laws.Strings
import Derived.Deep.Cut
import Derived.Deep.CutRange
import Derived.Laws.FloatArith
import Derived.Laws.ComplexArith
import Derived.Deep.RegionHeld3
import Derived.BigQuiet
namespace Go.Proofs.YtgkddimijmnpcaaGreatDoor
open Go.RowKit Go.Shelf
set_option linter.unusedVariables false
set_option linter.unusedSimpArgs false

set_option maxHeartbeats 1000000 in
set_option maxRecDepth 100000 in
/-- The document's Put refuses ahead of the loop. -/
theorem rput_no (c : Ce) (p : Pl) (d : D2) (v : ByteArray) (w : World) (hv : v.size ≤ maxLen) (hb : (decide (c.kind = 2) && (mayB d.1 d.2 16 && decide (v.size ≤ 256))) = false) :
    Calls Tryz.prog 73 #[ceV c p, dv d, .string v] w fun e w' => e = .returned (.tuple #[ceV ce0 pl0, .int .i64 900]) ∧ Below w.heap.size w w' := by
  have H0 : Hid (Set3 w w.heap.size c p d.1 d.2 (((w.alloc (.cells (ceL c p).toArray 30)).alloc (.cells #[.int .i64 d.1, .int .i64 d.2] 32)).alloc (.cells (ceL ce0 pl0).toArray 30))) := set3_new _ _ _ _ _ _ _ _
  obtain ⟨h, hh⟩ : ∃ h, w.heap.size = h := ⟨_, rfl⟩
  rw [hh] at H0 ⊢
  unfold maxLen at hv
  by_cases hk : c.kind = 2
  · have hk1 : (c.kind != 2) = false := by simpa using hk
    have C := fun W => refMay_any d.1 d.2 16 W
    cases hm : mayB d.1 d.2 16 with
    | false =>
      rw [hm] at C
      clear hb hk hm
      go_enter Tryz.func73, Tryz.ntmps73
      go_wp2_with fail
      refine (C _).mono ?_
      rintro e w1 ⟨rfl, b1⟩
      have H2 : Hid (Set3 w h c p d.1 d.2 w1) := H0.out.later b1
      clear b1 H0 C
      obtain ⟨s0, s1, s2, s3, s4, s5, s6, s7, s8, s9⟩ := H2.out.2.2.2.ten
      obtain ⟨z0, z1, z2, z3, z4, z5, z6, z7, z8, z9⟩ := H2.out.2.2.2.tenf
      go_wp2_with fail
      exact put_no_end H2.out rfl rfl rfl rfl
    | true =>
      rw [hm] at C
      have hs : ¬ v.size ≤ 256 := by simpa [hk, hm] using hb
      have hs1 : decide ((256 : Int) < (v.size : Int)) = true := by simp; omega
      clear hb hk hm
      go_enter Tryz.func73, Tryz.ntmps73
      go_wp2_with fail
      refine (C _).mono ?_
      rintro e w1 ⟨rfl, b1⟩
      have H2 : Hid (Set3 w h c p d.1 d.2 w1) := H0.out.later b1
      clear b1 H0 C
      obtain ⟨s0, s1, s2, s3, s4, s5, s6, s7, s8, s9⟩ := H2.out.2.2.2.ten
      obtain ⟨z0, z1, z2, z3, z4, z5, z6, z7, z8, z9⟩ := H2.out.2.2.2.tenf
      go_wp2_with fail
      exact put_no_end H2.out rfl rfl rfl rfl
  · have hk1 : (c.kind != 2) = true := by simpa using hk
    go_enter Tryz.func73, Tryz.ntmps73
    go_wp2_with fail
    exact bodyPost_ret (ret_cell2 rfl rfl rfl H0.out.2.2.2) rfl ⟨rfl, H0.out.1⟩

/-- What Put answers. -/
def ansP (c : Ce) (d : D2) (v : ByteArray) : Ce := if putB c d v then cE c (putL c.ents d v) else ce0
def numP (c : Ce) (d : D2) (v : ByteArray) : Int := if putB c d v then 0 else 900
/-- What Drop answers. -/
def ansQ (c : Ce) (ds : List D2) : Ce := if decide (c.kind = 2) then cE c (dropL c.ents ds) else ce0
def numQ (c : Ce) : Int := if decide (c.kind = 2) then 0 else 900
/-- What Dots answers. -/
def ansD (c : Ce) (v : ByteArray) : List D2 := if decide (c.kind = 2) then dotsL c.ents v else []

theorem put_all (c : Ce) (p : Pl) (d : D2) (v : ByteArray) (w : World) (hr : CRow w c p) (hf : Fit c) (hv : v.size ≤ maxLen) :
    Calls Tryz.prog 59 #[ceV c p, dv d, .string v] w fun e w' => ∃ q, e = .returned (.tuple #[ceV (ansP c d v) q, .int .i64 (numP c d v)]) ∧ COwn w.heap.size w' (ansP c d v) q ∧ Below w.heap.size w w' := by
  unfold ansP numP
  cases hb : putB c d v with
  | true => exact put_yes c p d v w hr hf hb
  | false =>
    refine (put_no c p d v w hr hf hv hb).mono ?_
    rintro e w1 ⟨he, b⟩
    exact ⟨pl0, he, own_none0 _ _, b⟩

theorem rput_all (c : Ce) (p : Pl) (d : D2) (v : ByteArray) (w : World) (hr : CRow w c p) (hf : Fit c) (hcap : c.ents.length ≤ p.ec) (hv : v.size ≤ maxLen) :
    Calls Tryz.prog 73 #[ceV c p, dv d, .string v] w fun e w' => ∃ q, e = .returned (.tuple #[ceV (ansP c d v) q, .int .i64 (numP c d v)]) ∧ COwn w.heap.size w' (ansP c d v) q ∧ Below w.heap.size w w' := by
  cases h1 : (decide (c.kind = 2) && (mayB d.1 d.2 16 && decide (v.size ≤ 256))) with
  | false =>
    have hb : putB c d v = false := by
      unfold putB
      revert h1
      cases decide (c.kind = 2) <;> cases mayB d.1 d.2 16 <;> cases decide (v.size ≤ 256) <;> simp
    refine (rput_no c p d v w hv h1).mono ?_
    rintro e w1 ⟨he, b⟩
    unfold ansP numP
    rw [hb]
    exact ⟨pl0, he, own_none0 _ _, b⟩
  | true =>
    simp only [Bool.and_eq_true, decide_eq_true_eq] at h1
    obtain ⟨hk, hm, hs⟩ := h1
    have hb : putB c d v = !hasD c.ents d := by simp [putB, hk, hm, hs]
    refine (rput_any c p d v w hr hf hcap hs hm (by simpa using hk)).mono ?_
    unfold ansP numP
    rintro e w1 (⟨hh, he, b⟩ | ⟨hh, q, he, o, b⟩)
    · rw [hb, hh]
      exact ⟨pl0, he, own_none0 _ _, b⟩
    · rw [hb, hh]
      exact ⟨q, he, o, b⟩

theorem drop_all (c : Ce) (p : Pl) (ao : Option Addr) (ca : Nat) (ds : List D2) (w : World) (hr : CRow w c p) (hf : Fit c) (hds : FRow w ao (flatD ds)) (hl : ds.length * 16 ≤ 140737488355328) :
    Calls Tryz.prog 61 #[ceV c p, .slice ao ds.length ca] w fun e w' => ∃ q, e = .returned (.tuple #[ceV (ansQ c ds) q, .int .i64 (numQ c)]) ∧ COwn w.heap.size w' (ansQ c ds) q ∧ Below w.heap.size w w' := by
  unfold ansQ numQ
  by_cases hk : c.kind = 2
  · rw [decide_eq_true hk]
    exact drop_yes c p ao ca ds w hr hf hds hl (by simpa using hk)
  · rw [decide_eq_false hk]
    refine (drop_no c p _ w (by simpa using hk)).mono ?_
    rintro e w1 ⟨he, b⟩
    exact ⟨pl0, he, own_none0 _ _, b⟩

theorem rdrop_all (c : Ce) (p : Pl) (ao : Option Addr) (ca : Nat) (ds : List D2) (w : World) (hr : CRow w c p) (hf : Fit c) (hds : FRow w ao (flatD ds)) (hl : ds.length * 16 ≤ 140737488355328) :
    Calls Tryz.prog 74 #[ceV c p, .slice ao ds.length ca] w fun e w' => ∃ q, e = .returned (.tuple #[ceV (ansQ c ds) q, .int .i64 (numQ c)]) ∧ COwn w.heap.size w' (ansQ c ds) q ∧ Below w.heap.size w w' := by
  unfold ansQ numQ
  by_cases hk : c.kind = 2
  · rw [decide_eq_true hk]
    exact rdrop_yes c p ao ca ds w hr hf hds hl (by simpa using hk)
  · rw [decide_eq_false hk]
    refine (rdrop_no c p _ w (by simpa using hk)).mono ?_
    rintro e w1 ⟨he, b⟩
    exact ⟨pl0, he, own_none0 _ _, b⟩

theorem fit_more {c : Ce} {l : List E3} (h : Fit c) (hl : l.length * 32 ≤ 140737488351232 + 32) (hv : ∀ x ∈ l, x.val.size ≤ 140737488351232) : c.elems.length * 48 ≤ 140737488351232 := h.2.1

end Go.Proofs.YtgkddimijmnpcaaGreatDoor

/-
  The document's own SetValues, by contract.
-/
namespace Go.Proofs.YtgkddimijmnpcaaGreatDoor
open Go.RowKit Go.Shelf
set_option linter.unusedVariables false
set_option linter.unusedSimpArgs false

set_option maxHeartbeats 400000 in
set_option maxRecDepth 100000 in
/-- The document's Values refuses. -/
theorem rvals_no (c : Ce) (p : Pl) (w : World) (hk : (c.kind != 2) = true) :
    Calls Tryz.prog 37 #[ceV c p] w fun e w' => e = .returned (.tuple #[.slice none 0 0, .int .i64 900]) ∧ Below w.heap.size w w' := by
  go_enter Tryz.func37, Tryz.ntmps37
  go_wp2
  go_ret2
  exact ⟨rfl, (Below.refl _ _).alloc (Nat.le_refl _) _⟩

theorem frow_takeS {w : World} {ao : Option Addr} {l : List S8} (h : FRow w ao (flatS l)) (k : Nat) : FRow w ao (flatS (l.take k)) := fun h0 => by
  rw [flatS_len, List.length_take] at h0
  obtain ⟨b, off, e, hb, hc⟩ := h (by rw [flatS_len]; omega)
  refine ⟨b, off, e, hb, fun i u hu => hc i u ?_⟩
  unfold flatS at hu ⊢
  rw [List.map_take, List.getElem?_take] at hu
  split at hu
  · exact hu
  · simp at hu

theorem frow_dropS {w : World} {b off : Nat} {l : List S8} (h : FRow w (some ⟨b, off, none⟩) (flatS l)) (k : Nat) : FRow w (some ⟨b, off + k, none⟩) (flatS (l.drop k)) := fun h0 => by
  rw [flatS_len, List.length_drop] at h0
  obtain ⟨b', off', e, hb, hc⟩ := h (by rw [flatS_len]; omega)
  simp only [Option.some.injEq, Addr.mk.injEq, and_true] at e
  obtain ⟨rfl, rfl⟩ := e
  refine ⟨b, _, rfl, hb, fun i u hu => ?_⟩
  unfold flatS at hu hc
  rw [List.map_drop, List.getElem?_drop] at hu
  have := hc _ u hu
  rwa [← Nat.add_assoc] at this

/-- The row's end. -/
theorem vl_end {w wr w4 : World} {h n1 n4 : Nat} {c : Ce} {p : Pl} {l : List S8} {ao bo : Option Addr} {ca cb k : Nat} {v : S8} (H : Vl w h c p l ao ca wr) (hn1 : wr.heap.size = n1) (hk : k = placeS l v) (hno : l[k]? ≠ some v) (hn4 : n4 = l.length + 1) (o4 : w4.ownsRow n1 9 1 (.slice bo n4 cb) n4 (flatS (l.take k) ++ [.string ⟨v.toArray⟩] ++ flatS (l.drop k))) (b4 : Below n1 wr w4) : Vl w h c p (insS l v) bo cb w4 := by
  have hs := H.2.1.1
  subst hk hn4
  have e : insS l v = l.take (placeS l v) ++ v :: l.drop (placeS l v) := by unfold insS; rw [if_neg hno]
  have e2 : (insS l v).length = l.length + 1 := by have := placeS_le l v; rw [e]; simp; omega
  refine ⟨H.1.trans (b4.mono (by omega)), H.2.1.under (by omega) b4, ?_⟩
  rw [e2]
  have e3 : flatS (insS l v) = flatS (l.take (placeS l v)) ++ [.string ⟨v.toArray⟩] ++ flatS (l.drop (placeS l v)) := by
    rw [e, flatS_append, List.append_assoc]
    rfl
  rw [e3]
  exact own_mono o4 (by omega)

theorem vl_end2 {w wr w4 : World} {h n1 n4 : Nat} {c : Ce} {p : Pl} {l : List S8} {ao bo : Option Addr} {ca cb k : Nat} {b : ByteArray} (H : Vl w h c p l ao ca wr) (hn1 : wr.heap.size = n1) (hk : k = placeS l b.data.toList) (hno : l[k]? ≠ some b.data.toList) (hn4 : n4 = l.length + 1) (o4 : w4.ownsRow n1 9 1 (.slice bo n4 cb) n4 (flatS (l.take k) ++ [.string b] ++ flatS (l.drop k))) (b4 : Below n1 wr w4) : Vl w h c p (insS l b.data.toList) bo cb w4 ∧ (insS l b.data.toList).length = l.length + 1 :=
  ⟨vl_end H hn1 hk hno hn4 o4 b4, by
    subst hk
    unfold insS
    have := placeS_le l b.data.toList
    rw [if_neg hno]
    simp
    omega⟩

set_option maxHeartbeats 2000000 in
set_option maxRecDepth 100000 in
/-- The document's Values takes it. -/
theorem rvals_yes (c : Ce) (p : Pl) (w : World) (hr : CRow w c p) (hf : Fit c) (hk : (c.kind != 2) = false) :
    Calls Tryz.prog 37 #[ceV c p] w fun e w' => ∃ ao ca, e = .returned (.tuple #[.slice ao (setV (valsL c.ents)).length ca, .int .i64 0]) ∧ FOwn w.heap.size w' ao (flatS (setV (valsL c.ents))) ∧ Below w.heap.size w w' := by
  obtain ⟨h, hh⟩ : ∃ h, w.heap.size = h := ⟨_, rfl⟩
  have H0 : Hid (Vl w h c p [] none 0 (w.alloc (.cells (ceL c p).toArray 30))) := ⟨hh ▸ (Below.refl _ _).alloc (Nat.le_refl _) _, hh ▸ has_new w (ceL c p) _, own_nil _ _ _ _⟩
  have HR : Hid (FRow w p.eo (flatE c.ents) ∧ w.heap.size = h) := ⟨hr.1, hh⟩
  have hl := hf.1
  rw [hh]
  clear hr hf
  go_enter Tryz.func37, Tryz.ntmps37
  go_wp2
  clear hh
  go_loopg [4, 5] c.ents.length (fun n s4 iv wr => ∃ (i : Nat) (ao : Option Addr) (ca : Nat), i + n = c.ents.length ∧ iv = .int .i64 i ∧ s4 = .slice ao (setV (valsL (c.ents.take i))).length ca ∧ Hid (Vl w h c p (setV (valsL (c.ents.take i))) ao ca wr))
  case atStart => exact ⟨0, none, 0, by omega, rfl, rfl, H0.out⟩
  case round =>
    clear H0
    obtain ⟨i, ao, ca, hin, rfl, rfl, HD⟩ := hrel
    have t7 := HD.out.2.1.at 7 rfl
    by_cases hi : i < c.ents.length
    · obtain ⟨bk, off, ea, hb, hc⟩ := HR.out.1 (by rw [flatE_len]; omega)
      obtain ⟨x, hx⟩ : ∃ x, c.ents[i]? = some x := ⟨_, List.getElem?_eq_getElem hi⟩
      obtain ⟨g0, g1, g2⟩ := flatE_at c.ents i hx
      have hb1 : bk < h := HR.out.2 ▸ hb
      have k2 := (HD.out.1.cell (p := ⟨bk, off + i * 3 + 2, none⟩) (by exact hb1)).trans (hc _ _ g2)
      rw [ea] at t7
      have HX : Hid (setV (valsL (c.ents.take (i + 1))) = insS (setV (valsL (c.ents.take i))) x.val.data.toList ∧ (setV (valsL (c.ents.take i))).length ≤ i) := by
        refine ⟨?_, ?_⟩
        · rw [valsL_step hx]
          unfold setV
          rw [List.foldl_append]
          rfl
        · have := setV_le (valsL (c.ents.take i))
          rw [valsL_len, List.length_take] at this
          omega
      clear hc hx g0 g1 g2 hb ea
      generalize setV (valsL (c.ents.take i)) = l at *
      have hli : l.length ≤ i := HX.out.2
      obtain ⟨bx, hbx⟩ : ∃ b, x.val = b := ⟨_, rfl⟩
      rw [hbx] at k2 HX
      clear hbx
      have HN : Hid ((ao = none ∧ l.length = 0 ∧ ca = 0) ∨ ∃ g, ao = some ⟨g, 0, none⟩) := by
        rcases HD.out.2.2.2 with ⟨h1, h2⟩ | ⟨g, cap, cur, h1, _⟩
        · simp only [Value.slice.injEq] at h1
          exact Or.inl ⟨h1.1, h2, h1.2.2⟩
        · simp only [Value.slice.injEq] at h1
          exact Or.inr ⟨g, h1.1⟩
      obtain ⟨n0, hn0⟩ : ∃ n0, n0 = gk := ⟨_, rfl⟩
      go_wp2_with fail
      go_loopg [7] l.length (fun n kv wq => ∃ (k : Nat), k + n = l.length ∧ kv = .int .i64 k ∧ Hid (∀ j y, j < k → l[j]? = some y → y < bx.data.toList) ∧ Hid (Vl w h c p l ao ca wq))
      case atStart => exact ⟨0, by omega, rfl, fun j y hj => by omega, HD.out⟩
      case round =>
        clear HD
        obtain ⟨k, hkn, rfl, HK, HD⟩ := hrel
        obtain ⟨n1, hn1⟩ : ∃ n, wr.heap.size = n := ⟨_, rfl⟩
        have hca := (own_cap HD.out.2.2).1
        by_cases hkl : k < l.length
        · obtain ⟨y, hy⟩ : ∃ y, l[k]? = some y := ⟨_, List.getElem?_eq_getElem hkl⟩
          have HY : Hid (l[k]? = some y) := hy
          obtain ⟨g, rfl, hg, hgw, hc⟩ := own_row HD.out.2.2 (by rw [flatS_len]; omega)
          have k3 := (hc _ _ (flatS_at hy)).1
          clear hc hy HN
          cases hq : Op.bytesLess y bx.toList with
          | true =>
            have HK2 : Hid (∀ j z, j < k + 1 → l[j]? = some z → z < bx.data.toList) := fun j z hj hz => by
              by_cases e : j = k
              · subst e
                rw [HY.out] at hz
                obtain rfl := Option.some.inj hz
                rw [bytesLess_eq, ByteArray.toList_eq] at hq
                simpa using hq
              · exact HK.out j z (by omega) hz
            clear hn1
            go_wp2
            go_roundg (gk - 1)
            case measure => omega
            case rel => exact ⟨k + 1, by omega, by go_num, HK2.out, HD.out⟩
          | false =>
            have hpl : Hid (k = placeS l bx.data.toList) := (placeS_eq (by omega) HK.out fun z hz => by
              rw [HY.out] at hz
              obtain rfl := Option.some.inj hz
              rw [bytesLess_eq, ByteArray.toList_eq] at hq
              simpa using hq).symm
            cases he : (y == bx.toList) with
            | true =>
              have HI : Hid (insS l bx.data.toList = l) := by
                show insS l bx.data.toList = l
                unfold insS
                rw [← hpl.out, HY.out, if_pos]
                rw [ByteArray.toList_eq] at he
                rw [eq_of_beq he]
              clear hn1
              go_wp2
              go_roundg (n0 - 1)
              case measure => omega
              case rel => exact ⟨i + 1, some ⟨g, 0, none⟩, ca, by omega, by go_num, by rw [HX.out.1, HI.out], by rw [HX.out.1, HI.out]; exact HD.out⟩
            | false =>
              have HP : Hid (k = placeS l bx.data.toList ∧ l[k]? ≠ some bx.data.toList) := ⟨hpl.out, fun e => by
                rw [HY.out] at e
                rw [ByteArray.toList_eq] at he
                rw [Option.some.inj e] at he
                simp at he⟩
              have hck : ¬ (ca = k) := by omega
              have R0 : Hid (FRow wr (some ⟨g, k, none⟩) (flatS (l.drop k))) := by
                have := frow_dropS (own_row HD.out.2.2).row k
                rw [Nat.zero_add] at this
                exact this
              have HB : Hid (Below n1 wr (wr.alloc (.cells #[] 9))) := (Below.refl _ _).alloc (by omega) _
              have HO : Hid ((wr.alloc (.cells #[] 9)).ownsRow n1 9 1 (.slice (some ⟨n1, 0, none⟩) 0 0) 0 []) := own_empty hn1
              have R1 : Hid (FRow (wr.alloc (.cells #[] 9)) (some ⟨g, 0, none⟩) (flatS (l.take k))) := (frow_takeS (own_row HD.out.2.2).row k).later ((Below.refl _ _).alloc (Nat.le_refl _) _)
              have hlk : (flatS (l.take k)).length = k * 1 := by rw [flatS_len, List.length_take]; omega
              go_upto_region 13 with (first
                | (at_builtin
                   refine wpList_onto rfl _ _ 65 rfl Tryz.underlying65 Tryz.infoString rfl (by decide) (by decide) (B := n1) rfl rfl HO.out R1.out hlk (fun u hu => oneS hu) (by omega) (by simp; omega) ?_
                   intro a2 c2 w2 o2 m2 b2
                   simp only [Nat.zero_add, List.nil_append] at o2 ⊢
                   have H2 : Hid (w2.ownsRow n1 9 1 (.slice a2 k c2) k (flatS (l.take k)) ∧ Below n1 wr w2) := ⟨o2, HB.out.trans b2⟩
                   clear o2 m2 b2))
              clear HO R1 HB hlk
              obtain ⟨n2, hn2⟩ : ∃ n, w2.heap.size = n := ⟨_, rfl⟩
              have hn12 : n1 ≤ n2 := by have := H2.out.2.size; omega
              have R2 : Hid (FRow (w2.alloc (.cells #[.string bx] 9)) (some ⟨n2, 0, none⟩) [.string bx]) := frow_newAt hn2 [.string bx] _
              have HO : Hid ((w2.alloc (.cells #[.string bx] 9)).ownsRow n1 9 1 (.slice a2 k c2) k (flatS (l.take k)) ∧ Below n1 wr (w2.alloc (.cells #[.string bx] 9))) := ⟨own_later H2.out.1 ((Below.refl _ _).alloc (Nat.le_refl _) _), H2.out.2.trans ((Below.refl _ _).alloc (by omega) _)⟩
              clear H2
              go_upto_region 14 with (first
                | (at_builtin
                   refine wpList_onto rfl _ _ 65 rfl Tryz.underlying65 Tryz.infoString rfl (by decide) (by decide) (B := n1) rfl rfl HO.out.1 R2.out rfl (fun u hu => by obtain rfl := List.mem_singleton.1 hu; rfl) (by omega) (by simp; omega) ?_
                   intro a3 c3 w3 o3 m3 b3
                   have H3 : Hid (w3.ownsRow n1 9 1 (.slice a3 (k + 1) c3) (k + 1) (flatS (l.take k) ++ [.string bx]) ∧ Below n1 wr w3) := ⟨o3, HO.out.2.trans b3⟩
                   clear o3 m3 b3))
              clear HO R2 hn2 hn12
              have hld : (flatS (l.drop k)).length = (l.length - k) * 1 := (by rw [flatS_len, List.length_drop]; omega)
              have hw3 : n1 ≤ w3.heap.size := by have := H3.out.2.size; omega
              have R3 : Hid (FRow w3 (some ⟨g, k, none⟩) (flatS (l.drop k))) := R0.out.later (hn1 ▸ H3.out.2)
              go_wp2_with (first
                | (at_builtin
                   refine wpList_onto rfl _ _ 65 rfl Tryz.underlying65 Tryz.infoString rfl (by decide) (by decide) (B := n1) rfl rfl H3.out.1 R3.out hld (fun u hu => oneS hu) (by omega) hw3 ?_
                   intro a4 c4 w4 o4 m4 b4
                   have H4 : Hid (Vl w h c p (insS l bx.data.toList) a4 c4 w4 ∧ (insS l bx.data.toList).length = l.length + 1) := vl_end2 HD.out hn1 HP.out.1 HP.out.2 (by omega) o4 (H3.out.2.trans b4)
                   clear o4 m4 b4))
              go_roundg (n0 - 1)
              case measure => omega
              case rel => exact ⟨i + 1, a4, c4, by omega, by go_num, by rw [HX.out.1, H4.out.2]; congr 1; omega, by rw [HX.out.1]; exact H4.out.1⟩
        · obtain rfl : k = l.length := by omega
          have HP : Hid (l.length = placeS l bx.data.toList ∧ l[l.length]? ≠ some bx.data.toList) := ⟨(placeS_eq (Nat.le_refl _) HK.out fun z hz => by simp at hz).symm, by simp⟩
          clear HK
          rcases HN.out with ⟨rfl, hl0, rfl⟩ | ⟨g, rfl⟩
          · obtain rfl : l = [] := List.eq_nil_of_length_eq_zero hl0
            clear hl0 HN hca hkl hkn
            have HB : Hid (Below n1 wr (wr.alloc (.cells #[] 9))) := (Below.refl _ _).alloc (by omega) _
            have HO : Hid ((wr.alloc (.cells #[] 9)).ownsRow n1 9 1 (.slice (some ⟨n1, 0, none⟩) 0 0) 0 []) := own_empty hn1
            have R1 : Hid (FRow (wr.alloc (.cells #[] 9)) none (flatS (([] : List S8).take 0))) := (frow_takeS (own_row HD.out.2.2).row 0).later ((Below.refl _ _).alloc (Nat.le_refl _) _)
            have hlk : (flatS (([] : List S8).take 0)).length = 0 * 1 := by rw [flatS_len, List.length_take]; omega
            go_upto_region 13 with (first
              | (at_builtin
                 refine wpList_onto rfl _ _ 65 rfl Tryz.underlying65 Tryz.infoString rfl (by decide) (by decide) (B := n1) rfl rfl HO.out R1.out hlk (fun u hu => oneS hu) (by omega) (by simp; omega) ?_
                 intro a2 c2 w2 o2 m2 b2
                 simp only [Nat.zero_add, List.nil_append] at o2 ⊢
                 have H2 : Hid (w2.ownsRow n1 9 1 (.slice a2 0 c2) 0 (flatS (([] : List S8).take 0)) ∧ Below n1 wr w2) := ⟨o2, HB.out.trans b2⟩
                 clear o2 m2 b2))
            clear HO R1 HB hlk
            obtain ⟨n2, hn2⟩ : ∃ n, w2.heap.size = n := ⟨_, rfl⟩
            have hn12 : n1 ≤ n2 := by have := H2.out.2.size; omega
            have R2 : Hid (FRow (w2.alloc (.cells #[.string bx] 9)) (some ⟨n2, 0, none⟩) [.string bx]) := frow_newAt hn2 [.string bx] _
            have HO : Hid ((w2.alloc (.cells #[.string bx] 9)).ownsRow n1 9 1 (.slice a2 0 c2) 0 (flatS (([] : List S8).take 0)) ∧ Below n1 wr (w2.alloc (.cells #[.string bx] 9))) := ⟨own_later H2.out.1 ((Below.refl _ _).alloc (Nat.le_refl _) _), H2.out.2.trans ((Below.refl _ _).alloc (by omega) _)⟩
            clear H2
            go_upto_region 14 with (first
              | (at_builtin
                 refine wpList_onto rfl _ _ 65 rfl Tryz.underlying65 Tryz.infoString rfl (by decide) (by decide) (B := n1) rfl rfl HO.out.1 R2.out rfl (fun u hu => by obtain rfl := List.mem_singleton.1 hu; rfl) (by omega) (by simp; omega) ?_
                 intro a3 c3 w3 o3 m3 b3
                 have H3 : Hid (w3.ownsRow n1 9 1 (.slice a3 (0 + 1) c3) (0 + 1) (flatS (([] : List S8).take 0) ++ [.string bx]) ∧ Below n1 wr w3) := ⟨o3, HO.out.2.trans b3⟩
                 clear o3 m3 b3))
            clear HO R2 hn2 hn12
            have hld : (flatS (([] : List S8).drop 0)).length = (0) * 1 := rfl
            have hw3 : n1 ≤ w3.heap.size := by have := H3.out.2.size; omega
            have R3 : Hid (FRow w3 none (flatS (([] : List S8).drop 0))) := frow_nil rfl
            go_wp2_with (first
              | (at_builtin
                 refine wpList_onto rfl _ _ 65 rfl Tryz.underlying65 Tryz.infoString rfl (by decide) (by decide) (B := n1) rfl rfl H3.out.1 R3.out hld (fun u hu => oneS hu) (by omega) hw3 ?_
                 intro a4 c4 w4 o4 m4 b4
                 have H4 : Hid (Vl w h c p (insS ([] : List S8) bx.data.toList) a4 c4 w4 ∧ (insS ([] : List S8) bx.data.toList).length = ([] : List S8).length + 1) := vl_end2 HD.out hn1 HP.out.1 HP.out.2 rfl o4 (H3.out.2.trans b4)
                 clear o4 m4 b4))
            go_roundg (n0 - 1)
            case measure => omega
            case rel => exact ⟨i + 1, a4, c4, by omega, by go_num, by rw [HX.out.1, H4.out.2]; rfl, by rw [HX.out.1]; exact H4.out.1⟩
          · have hnil : Hid (flatS (l.drop l.length) = []) := by
              show flatS (l.drop l.length) = []
              rw [List.drop_length]; rfl
            have hlg : g < n1 := by have := (HD.out.2.2.lt g rfl).2; omega
            by_cases hck : ca = l.length
            · clear HN
              have HB : Hid (Below n1 wr (wr.alloc (.cells #[] 9))) := (Below.refl _ _).alloc (by omega) _
              have HO : Hid ((wr.alloc (.cells #[] 9)).ownsRow n1 9 1 (.slice (some ⟨n1, 0, none⟩) 0 0) 0 []) := own_empty hn1
              have R1 : Hid (FRow (wr.alloc (.cells #[] 9)) (some ⟨g, 0, none⟩) (flatS (l.take l.length))) := (frow_takeS (own_row HD.out.2.2).row l.length).later ((Below.refl _ _).alloc (Nat.le_refl _) _)
              have hlk : (flatS (l.take l.length)).length = l.length * 1 := by rw [flatS_len, List.length_take]; omega
              go_upto_region 13 with (first
                | (at_builtin
                   refine wpList_onto rfl _ _ 65 rfl Tryz.underlying65 Tryz.infoString rfl (by decide) (by decide) (B := n1) rfl rfl HO.out R1.out hlk (fun u hu => oneS hu) (by omega) (by simp; omega) ?_
                   intro a2 c2 w2 o2 m2 b2
                   simp only [Nat.zero_add, List.nil_append] at o2 ⊢
                   have H2 : Hid (w2.ownsRow n1 9 1 (.slice a2 l.length c2) l.length (flatS (l.take l.length)) ∧ Below n1 wr w2) := ⟨o2, HB.out.trans b2⟩
                   clear o2 m2 b2))
              clear HO R1 HB hlk
              obtain ⟨n2, hn2⟩ : ∃ n, w2.heap.size = n := ⟨_, rfl⟩
              have hn12 : n1 ≤ n2 := by have := H2.out.2.size; omega
              have R2 : Hid (FRow (w2.alloc (.cells #[.string bx] 9)) (some ⟨n2, 0, none⟩) [.string bx]) := frow_newAt hn2 [.string bx] _
              have HO : Hid ((w2.alloc (.cells #[.string bx] 9)).ownsRow n1 9 1 (.slice a2 l.length c2) l.length (flatS (l.take l.length)) ∧ Below n1 wr (w2.alloc (.cells #[.string bx] 9))) := ⟨own_later H2.out.1 ((Below.refl _ _).alloc (Nat.le_refl _) _), H2.out.2.trans ((Below.refl _ _).alloc (by omega) _)⟩
              clear H2
              go_upto_region 14 with (first
                | (at_builtin
                   refine wpList_onto rfl _ _ 65 rfl Tryz.underlying65 Tryz.infoString rfl (by decide) (by decide) (B := n1) rfl rfl HO.out.1 R2.out rfl (fun u hu => by obtain rfl := List.mem_singleton.1 hu; rfl) (by omega) (by simp; omega) ?_
                   intro a3 c3 w3 o3 m3 b3
                   have H3 : Hid (w3.ownsRow n1 9 1 (.slice a3 (l.length + 1) c3) (l.length + 1) (flatS (l.take l.length) ++ [.string bx]) ∧ Below n1 wr w3) := ⟨o3, HO.out.2.trans b3⟩
                   clear o3 m3 b3))
              clear HO R2 hn2 hn12
              have hld : (flatS (l.drop l.length)).length = (0) * 1 := (by rw [hnil.out]; rfl)
              have hw3 : n1 ≤ w3.heap.size := by have := H3.out.2.size; omega
              have R3 : Hid (FRow w3 (some ⟨g, 0, none⟩) (flatS (l.drop l.length))) := frow_nil hnil.out
              go_wp2_with (first
                | (at_builtin
                   refine wpList_onto rfl _ _ 65 rfl Tryz.underlying65 Tryz.infoString rfl (by decide) (by decide) (B := n1) rfl rfl H3.out.1 R3.out hld (fun u hu => oneS hu) (by omega) hw3 ?_
                   intro a4 c4 w4 o4 m4 b4
                   have H4 : Hid (Vl w h c p (insS l bx.data.toList) a4 c4 w4 ∧ (insS l bx.data.toList).length = l.length + 1) := vl_end2 HD.out hn1 HP.out.1 HP.out.2 (by omega) o4 (H3.out.2.trans b4)
                   clear o4 m4 b4))
              go_roundg (n0 - 1)
              case measure => omega
              case rel => exact ⟨i + 1, a4, c4, by omega, by go_num, by rw [HX.out.1, H4.out.2], by rw [HX.out.1]; exact H4.out.1⟩
            · clear HN
              have HB : Hid (Below n1 wr (wr.alloc (.cells #[] 9))) := (Below.refl _ _).alloc (by omega) _
              have HO : Hid ((wr.alloc (.cells #[] 9)).ownsRow n1 9 1 (.slice (some ⟨n1, 0, none⟩) 0 0) 0 []) := own_empty hn1
              have R1 : Hid (FRow (wr.alloc (.cells #[] 9)) (some ⟨g, 0, none⟩) (flatS (l.take l.length))) := (frow_takeS (own_row HD.out.2.2).row l.length).later ((Below.refl _ _).alloc (Nat.le_refl _) _)
              have hlk : (flatS (l.take l.length)).length = l.length * 1 := by rw [flatS_len, List.length_take]; omega
              go_upto_region 13 with (first
                | (at_builtin
                   refine wpList_onto rfl _ _ 65 rfl Tryz.underlying65 Tryz.infoString rfl (by decide) (by decide) (B := n1) rfl rfl HO.out R1.out hlk (fun u hu => oneS hu) (by omega) (by simp; omega) ?_
                   intro a2 c2 w2 o2 m2 b2
                   simp only [Nat.zero_add, List.nil_append] at o2 ⊢
                   have H2 : Hid (w2.ownsRow n1 9 1 (.slice a2 l.length c2) l.length (flatS (l.take l.length)) ∧ Below n1 wr w2) := ⟨o2, HB.out.trans b2⟩
                   clear o2 m2 b2))
              clear HO R1 HB hlk
              obtain ⟨n2, hn2⟩ : ∃ n, w2.heap.size = n := ⟨_, rfl⟩
              have hn12 : n1 ≤ n2 := by have := H2.out.2.size; omega
              have R2 : Hid (FRow (w2.alloc (.cells #[.string bx] 9)) (some ⟨n2, 0, none⟩) [.string bx]) := frow_newAt hn2 [.string bx] _
              have HO : Hid ((w2.alloc (.cells #[.string bx] 9)).ownsRow n1 9 1 (.slice a2 l.length c2) l.length (flatS (l.take l.length)) ∧ Below n1 wr (w2.alloc (.cells #[.string bx] 9))) := ⟨own_later H2.out.1 ((Below.refl _ _).alloc (Nat.le_refl _) _), H2.out.2.trans ((Below.refl _ _).alloc (by omega) _)⟩
              clear H2
              go_upto_region 14 with (first
                | (at_builtin
                   refine wpList_onto rfl _ _ 65 rfl Tryz.underlying65 Tryz.infoString rfl (by decide) (by decide) (B := n1) rfl rfl HO.out.1 R2.out rfl (fun u hu => by obtain rfl := List.mem_singleton.1 hu; rfl) (by omega) (by simp; omega) ?_
                   intro a3 c3 w3 o3 m3 b3
                   have H3 : Hid (w3.ownsRow n1 9 1 (.slice a3 (l.length + 1) c3) (l.length + 1) (flatS (l.take l.length) ++ [.string bx]) ∧ Below n1 wr w3) := ⟨o3, HO.out.2.trans b3⟩
                   clear o3 m3 b3))
              clear HO R2 hn2 hn12
              have hld : (flatS (l.drop l.length)).length = (0) * 1 := (by rw [hnil.out]; rfl)
              have hw3 : n1 ≤ w3.heap.size := by have := H3.out.2.size; omega
              have R3 : Hid (FRow w3 (some ⟨g, l.length, none⟩) (flatS (l.drop l.length))) := frow_nil hnil.out
              go_wp2_with (first
                | (at_builtin
                   refine wpList_onto rfl _ _ 65 rfl Tryz.underlying65 Tryz.infoString rfl (by decide) (by decide) (B := n1) rfl rfl H3.out.1 R3.out hld (fun u hu => oneS hu) (by omega) hw3 ?_
                   intro a4 c4 w4 o4 m4 b4
                   have H4 : Hid (Vl w h c p (insS l bx.data.toList) a4 c4 w4 ∧ (insS l bx.data.toList).length = l.length + 1) := vl_end2 HD.out hn1 HP.out.1 HP.out.2 (by omega) o4 (H3.out.2.trans b4)
                   clear o4 m4 b4))
              go_roundg (n0 - 1)
              case measure => omega
              case rel => exact ⟨i + 1, a4, c4, by omega, by go_num, by rw [HX.out.1, H4.out.2], by rw [HX.out.1]; exact H4.out.1⟩
    · have hd : decide ((i : Int) < (c.ents.length : Int)) = false := by simp; omega
      go_wp2
      go_ret2
      have e : i = c.ents.length := by omega
      rw [e, List.take_length] at HD ⊢
      exact ⟨ao, ca, rfl, (own_row HD.out.2.2).mono (by omega), HD.out.1⟩

end Go.Proofs.YtgkddimijmnpcaaGreatDoor

/-
  Values at whatever comes; the laws' own words for rows of dots and texts: SameDots, SameTexts, CopyDots, LendDots, KeptDots, SpoilDots, by contracts.
-/
namespace Go.Proofs.YtgkddimijmnpcaaGreatDoor
open Go.RowKit Go.Shelf
set_option linter.unusedVariables false
set_option linter.unusedSimpArgs false

/-- What Values answers. -/
def ansV (c : Ce) : List S8 := if decide (c.kind = 2) then setV (valsL c.ents) else []

theorem vals_all (c : Ce) (p : Pl) (w : World) (hr : CRow w c p) (hf : Fit c) :
    Calls Tryz.prog 126 #[ceV c p] w fun e w' => ∃ ao ca, e = .returned (.tuple #[.slice ao (ansV c).length ca, .int .i64 (numQ c)]) ∧ FOwn w.heap.size w' ao (flatS (ansV c)) ∧ Below w.heap.size w w' := by
  unfold ansV numQ
  by_cases hk : c.kind = 2
  · rw [decide_eq_true hk]
    exact vals_yes c p w hr hf (by simpa using hk)
  · rw [decide_eq_false hk]
    refine (vals_no c p w (by simpa using hk)).mono ?_
    rintro e w1 ⟨he, b⟩
    exact ⟨none, 0, he, FOwn.nil _ _ _, b⟩

theorem rvals_all (c : Ce) (p : Pl) (w : World) (hr : CRow w c p) (hf : Fit c) :
    Calls Tryz.prog 37 #[ceV c p] w fun e w' => ∃ ao ca, e = .returned (.tuple #[.slice ao (ansV c).length ca, .int .i64 (numQ c)]) ∧ FOwn w.heap.size w' ao (flatS (ansV c)) ∧ Below w.heap.size w w' := by
  unfold ansV numQ
  by_cases hk : c.kind = 2
  · rw [decide_eq_true hk]
    exact rvals_yes c p w hr hf (by simpa using hk)
  · rw [decide_eq_false hk]
    refine (rvals_no c p w (by simpa using hk)).mono ?_
    rintro e w1 ⟨he, b⟩
    exact ⟨none, 0, he, FOwn.nil _ _ _, b⟩

end Go.Proofs.YtgkddimijmnpcaaGreatDoor

/-
  The laws' own words for rows of dots: LendDots, KeptDots, SpoilDots, by contracts.
-/
namespace Go.Proofs.YtgkddimijmnpcaaGreatDoor
open Go.RowKit Go.Shelf
set_option linter.unusedVariables false
set_option linter.unusedSimpArgs false

theorem frow_headD {w : World} {ao : Option Addr} {l m : List D2} (h : FRow w ao (flatD (l ++ m))) : FRow w ao (flatD l) := fun h0 => by
  rw [flatD_len] at h0
  obtain ⟨b, off, e, hb, hc⟩ := h (by rw [flatD_len, List.length_append]; omega)
  refine ⟨b, off, e, hb, fun i u hu => hc i u ?_⟩
  rw [flatD_append, List.getElem?_append_left (List.getElem?_eq_some_iff.1 hu).1]
  exact hu

/-- A row of dots of an answer's own: its second numbers. -/
theorem nums_dots {B : Nat} {w : World} {ao : Option Addr} {l : List D2} (H : FOwn B w ao (flatD l)) : Nums B w.heap.size w ao l.length 2 1 := fun h0 => by
  obtain ⟨g, h1, h2, h3, h4⟩ := H (by rw [flatD_len]; omega)
  refine ⟨g, h1, h2, h3, Nat.le_refl _, fun j hj => ?_⟩
  have := (flatD_at l j (List.getElem?_eq_getElem hj)).2
  exact ⟨⟨_, (h4 _ _ this).1⟩, (h4 _ _ this).2⟩

end Go.Proofs.YtgkddimijmnpcaaGreatDoor

/-
  Dots and texts that come as arguments.
-/
namespace Go.Proofs.YtgkddimijmnpcaaGreatDoor
open Go.ChangeShapes Go.WideShapes Go.ChangeAt Go.RowKit
set_option linter.unusedVariables false
set_option linter.unusedSimpArgs false

theorem flatS_flat : ∀ l : List S8, flatS l = l.flatMap (fun a => [encStr a])
  | [] => rfl
  | a :: l => by
    rw [List.flatMap_cons, ← flatS_flat l]
    rfl

section
variable {H : Type} {enc : TypeId × Value → H} {w : World}

theorem dec_dot (fuel : Nat) (cs : List Value) (x : DataW H × List MemPlace) (h : DataW.trod enc Tryz.prog w 0 (fun _ => true) true fuel 32 cs = some x) (hl : cs.length = 2) : ∃ a : D2, cs = d2 a ∧ ∀ k ∈ ([] : List Nat), k ∈ x.1.weights Tryz.prog 32 := by
  match cs, hl with
  | [a, b], _ =>
    obtain ⟨y, z, rfl, rfl, _, _⟩ := dec_two Tryz.underlying32 rfl rfl rfl rfl h
    exact ⟨(y, z), rfl, fun k hk => by simp at hk⟩

set_option maxRecDepth 100000 in
/-- A row of dots that comes as an argument. -/
theorem open_dots {base : Nat} {v : Value} {d : DataW H} {p : List MemPlace} (ok : Value.okWide Tryz.prog w .any base 33 v) (h : DataW.Trod enc Tryz.prog w 0 (fun _ => true) true 33 v d p) (hw : ∀ n, n ∈ d.weights Tryz.prog 33 → n ≤ reachBytes) :
    ∃ (l : List D2) (ao : Option Addr) (cap : Nat), v = .slice ao l.length cap ∧ FRow w ao (flatD l) ∧ l.length * 16 ≤ 140737488351232 := by
  obtain ⟨a0, len, cap, rfl⟩ := okWide_slice Tryz.underlying33 ok
  obtain ⟨fuel, hf⟩ := h
  obtain ⟨l, ao, cap2, e, hr, hk⟩ := rows_trod (0, 0) d2 2 16 (fun _ => rfl) (fun _ => []) Tryz.underlying33 (by kernel_rfl) (by decide) (by kernel_rfl) dec_dot hf
  refine ⟨l, ao, cap2, e, hr, ?_⟩
  exact (hk 140737488351232 fun n hn => by have := hw n hn; unfold reachBytes at this; omega).1

theorem dec_str (fuel : Nat) (cs : List Value) (x : DataW H × List MemPlace) (h : DataW.trod enc Tryz.prog w 0 (fun _ => true) true fuel 9 cs = some x) (_ : cs.length = 1) : ∃ a : S8, cs = [encStr a] ∧ ∀ k ∈ [a.length], k ∈ x.1.weights Tryz.prog 9 := by
  obtain ⟨s, hs, hx, _⟩ := DataW.trod_string Tryz.underlying9 h
  refine ⟨s.data.toList, hs, fun k hk => ?_⟩
  simp only [List.mem_singleton] at hk
  subst hk
  rw [hx]
  simp [DataW.weights]

set_option maxRecDepth 100000 in
/-- A row of texts that comes as an argument. -/
theorem open_texts {base : Nat} {v : Value} {d : DataW H} {p : List MemPlace} (ok : Value.okWide Tryz.prog w .any base 65 v) (h : DataW.Trod enc Tryz.prog w 0 (fun _ => true) true 65 v d p) (hw : ∀ n, n ∈ d.weights Tryz.prog 65 → n ≤ reachBytes) :
    ∃ (l : List S8) (ao : Option Addr) (cap : Nat), v = .slice ao l.length cap ∧ FRow w ao (flatS l) ∧ l.length * 16 ≤ 140737488351232 ∧ ∀ x ∈ l, x.length ≤ 140737488351232 := by
  obtain ⟨a0, len, cap, rfl⟩ := okWide_slice Tryz.underlying65 ok
  obtain ⟨fuel, hf⟩ := h
  obtain ⟨l, ao, cap2, e, hr, hk⟩ := rows_trod ([] : S8) (fun a => [encStr a]) 1 16 (fun _ => rfl) (fun a => [a.length]) Tryz.underlying65 (by kernel_rfl) (by decide) (by kernel_rfl) dec_str hf
  have hK := hk 140737488351232 fun n hn => by have := hw n hn; unfold reachBytes at this; omega
  refine ⟨l, ao, cap2, e, ?_, hK.1, fun x hx => ?_⟩
  · rw [flatS_flat]
    exact hr
  · obtain ⟨i, hi⟩ := List.getElem?_of_mem hx
    exact hK.2 i x hi _ (List.mem_singleton.2 rfl)

end

end Go.Proofs.YtgkddimijmnpcaaGreatDoor

/-
  The laws' own dots and values: 'dot', 'value', by contracts.
-/
namespace Go.Proofs.YtgkddimijmnpcaaGreatDoor
open Go.RowKit Go.Shelf
set_option linter.unusedVariables false
set_option linter.unusedSimpArgs false

/-- What a function answers whose answer is a dot. -/
theorem ret_dot {fn : Func} {tmps : Array Value} {t : Tmp} {w : World} {g : Nat} {x y : Int} (h : fn.results = #[.cell t 32]) (ht : tmps[t]? = some (.pointer (some ⟨g, 0, none⟩))) (hg : Has w g [.int .i64 x, .int .i64 y]) :
    (results fn tmps).run Tryz.prog w = .ok (dv (x, y)) w := by
  have h2 := hg.at 0 rfl
  have h3 := hg.at 1 rfl
  simp [results, h, ht, h2, h3, go_sem]
  try rfl

/-- The i-th dot. -/
def dotN (i : Nat) : D2 := (((i % 3 : Nat) : Int), 1 + ((i / 3 : Nat) : Int))

/-- One of eight values. -/
def valN (m : Nat) : S8 := 118 :: Lib.decDigits m

theorem valN_str {m : Nat} : ((⟨#[118]⟩ : ByteArray) ++ (⟨(Lib.decDigits m).toArray⟩ : ByteArray)) = ⟨(valN m).toArray⟩ := by
  apply ByteArray.ext
  simp [valN]

theorem Deci_len {m : Nat} (h : m < 8) : (Lib.decDigits m).length ≤ 21 := by
  have : m = 0 ∨ m = 1 ∨ m = 2 ∨ m = 3 ∨ m = 4 ∨ m = 5 ∨ m = 6 ∨ m = 7 := by omega
  rcases this with rfl | rfl | rfl | rfl | rfl | rfl | rfl | rfl <;> decide +kernel

end Go.Proofs.YtgkddimijmnpcaaGreatDoor

/-
  Cells that are sets and nothing more: Put, Drop, Dots, Values at them.
-/
namespace Go.Proofs.YtgkddimijmnpcaaGreatDoor
open Go.RowKit Go.Shelf
set_option linter.unusedVariables false
set_option linter.unusedSimpArgs false

/-- A set of those entries, of nothing more. -/
def sc (l : List E3) : Ce := ⟨2, false, 0, 0, ByteArray.empty, 0, 0, l, [], []⟩
abbrev slL (n : Nat) (q : Pl) : List Value := [.int .i64 2, .bool false, .int .i64 0, .int .i64 0, .string ⟨#[]⟩, .int .i64 0, .int .i64 0, .slice q.eo n q.ec, .slice q.lo 0 q.lc, .slice q.so 0 q.sc]
abbrev slV (n : Nat) (q : Pl) : Value := .agg #[.int .i64 2, .bool false, .int .i64 0, .int .i64 0, .string ⟨#[]⟩, .int .i64 0, .int .i64 0, .slice q.eo n q.ec, .slice q.lo 0 q.lc, .slice q.so 0 q.sc]

/-- Not many entries, no long texts. -/
def Small (l : List E3) : Prop := l.length ≤ 64 ∧ ∀ x ∈ l, x.val.size ≤ 256
theorem Small.nil : Small [] := ⟨by simp, fun x hx => by simp at hx⟩
theorem Small.fit {l : List E3} (h : Small l) : Fit (sc l) := by
  refine ⟨?_, by simp [sc], by simp [sc], by simp [sc], fun i x hx => ?_, fun i x hx => by simp [sc] at hx⟩
  · have := h.1
    simp only [sc]
    omega
  · have := h.2 x (List.mem_of_getElem? hx)
    omega
theorem sc_row {w : World} {l : List E3} {q : Pl} (h : FRow w q.eo (flatE l)) : CRow w (sc l) q := ⟨h, FRow.nil _ _, FRow.nil _ _⟩

/-- Put at a set takes it. -/
theorem puts_yes {l : List E3} {q : Pl} {d : D2} {v : ByteArray} (w : World) (m : List E3) (n n' : Nat) (hn : n = l.length) (hr : FRow w q.eo (flatE l)) (hs : Small l) (hb : putB (sc l) d v = true) (hm : putL l d v = m) (hn' : n' = m.length) :
    Calls Tryz.prog 59 #[slV n q, dv d, .string v] w fun e w' => ∃ q', e = .returned (.tuple #[slV n' q', .int .i64 0]) ∧ FOwn w.heap.size w' q'.eo (flatE m) ∧ Below w.heap.size w w' := by
  subst hn hm hn'
  refine Calls.mono (put_yes (sc l) q d v w (sc_row hr) hs.fit hb) ?_
  rintro e w1 ⟨q', rfl, o, b⟩
  exact ⟨q', rfl, o.1, b⟩

/-- Put at a set refuses. -/
theorem puts_no {l : List E3} {q : Pl} {d : D2} {v : ByteArray} (w : World) (n : Nat) (hn : n = l.length) (hr : FRow w q.eo (flatE l)) (hs : Small l) (hv : v.size ≤ maxLen) (hb : putB (sc l) d v = false) :
    Calls Tryz.prog 59 #[slV n q, dv d, .string v] w fun e w' => e = .returned (.tuple #[zv 0, .int .i64 900]) ∧ Below w.heap.size w w' := by
  subst hn
  exact put_no (sc l) q d v w (sc_row hr) hs.fit hv hb

/-- Drop at a set. -/
theorem drops_yes {l : List E3} {q : Pl} {ds : List D2} (ao : Option Addr) (ca : Nat) (w : World) (m : List E3) (n k n' : Nat) (hn : n = l.length) (hk : k = ds.length) (hr : FRow w q.eo (flatE l)) (hs : Small l) (hd : FRow w ao (flatD ds)) (hk2 : ds.length ≤ 64) (hm : dropL l ds = m) (hn' : n' = m.length) :
    Calls Tryz.prog 61 #[slV n q, .slice ao k ca] w fun e w' => ∃ q', e = .returned (.tuple #[slV n' q', .int .i64 0]) ∧ FOwn w.heap.size w' q'.eo (flatE m) ∧ Below w.heap.size w w' := by
  subst hn hm hn' hk
  refine Calls.mono (drop_all (sc l) q ao ca ds w (sc_row hr) hs.fit hd (by omega)) ?_
  rintro e w1 ⟨q', rfl, o, b⟩
  exact ⟨q', rfl, o.1, b⟩

/-- Values at a set. -/
theorem valss_yes {l : List E3} {q : Pl} (w : World) (m : List S8) (n n' : Nat) (hn : n = l.length) (hr : FRow w q.eo (flatE l)) (hs : Small l) (hm : setV (valsL l) = m) (hn' : n' = m.length) :
    Calls Tryz.prog 126 #[slV n q] w fun e w' => ∃ ao ca, e = .returned (.tuple #[.slice ao n' ca, .int .i64 0]) ∧ FOwn w.heap.size w' ao (flatS m) ∧ Below w.heap.size w w' := by
  subst hn hm hn'
  exact vals_yes (sc l) q w (sc_row hr) hs.fit rfl

end Go.Proofs.YtgkddimijmnpcaaGreatDoor

/-
  Rows of entries by their dots, what is put in whichever row, what a drop leaves, how many dots the values have: plain mathematics.
-/
namespace Go.Proofs.YtgkddimijmnpcaaGreatDoor
open Go.RowKit Go.Shelf
set_option linter.unusedVariables false
set_option linter.unusedSimpArgs false

/-- Sorted by dots, each once. -/
def SortE (l : List E3) : Prop := l.Pairwise fun x y => ltD (dotE x) (dotE y) = true

theorem ltD_trans {a b c : D2} (h : ltD a b = true) (h2 : ltD b c = true) : ltD a c = true := by
  unfold ltD at *
  simp only [decide_eq_true_eq] at *
  omega
theorem ltD_irr (a : D2) : ltD a a = false := by
  unfold ltD
  simp only [decide_eq_false_iff_not]
  omega
theorem ltD_asymm {a b : D2} (h : ltD a b = true) : ltD b a = false := by
  unfold ltD at *
  simp only [decide_eq_true_eq, decide_eq_false_iff_not] at *
  omega
theorem ltD_tri {a b : D2} (h : ltD a b = false) (h2 : a ≠ b) : ltD b a = true := by
  obtain ⟨a1, a2⟩ := a
  obtain ⟨b1, b2⟩ := b
  have h3 : ¬ (a1 = b1 ∧ a2 = b2) := fun e => h2 (by rw [e.1, e.2])
  unfold ltD at *
  simp only [decide_eq_true_eq, decide_eq_false_iff_not] at *
  omega

theorem putL_mem (l : List E3) (d : D2) (v : ByteArray) (x : E3) : x ∈ putL l d v ↔ x ∈ l ∨ x = ⟨d.1, d.2, v⟩ := by
  unfold putL insE
  constructor
  · intro h
    rcases List.mem_append.1 h with h | h
    · exact Or.inl (List.mem_of_mem_take h)
    · rcases List.mem_cons.1 h with h | h
      · exact Or.inr h
      · exact Or.inl (List.mem_of_mem_drop h)
  · intro h
    rcases h with h | h
    · rw [← List.take_append_drop (placeD l d) l] at h
      rcases List.mem_append.1 h with h | h
      · exact List.mem_append.2 (Or.inl h)
      · exact List.mem_append.2 (Or.inr (List.mem_cons_of_mem _ h))
    · exact List.mem_append.2 (Or.inr (by rw [h]; simp))

theorem placeD_nil (d : D2) : placeD [] d = 0 := rfl
theorem placeD_cons (a : E3) (l : List E3) (d : D2) : placeD (a :: l) d = if ltD d (dotE a) = true then 0 else placeD l d + 1 := by
  unfold placeD
  rw [List.takeWhile_cons]
  cases h : ltD d (dotE a) <;> simp

theorem putL_cons_lt (a : E3) (l : List E3) (d : D2) (v : ByteArray) (h : ltD d (dotE a) = true) : putL (a :: l) d v = ⟨d.1, d.2, v⟩ :: a :: l := by
  unfold putL insE
  rw [placeD_cons, if_pos h]
  simp
theorem putL_cons_ge (a : E3) (l : List E3) (d : D2) (v : ByteArray) (h : ltD d (dotE a) = false) : putL (a :: l) d v = a :: putL l d v := by
  unfold putL insE
  rw [placeD_cons, if_neg (by simp [h])]
  simp

theorem putL_len (l : List E3) (d : D2) (v : ByteArray) : (putL l d v).length = l.length + 1 := by
  induction l with
  | nil => rfl
  | cons a l ih =>
    cases h : ltD d (dotE a) with
    | true => rw [putL_cons_lt a l d v h]; simp
    | false => rw [putL_cons_ge a l d v h]; simp [ih]

theorem hasD_iff (l : List E3) (d : D2) : hasD l d = true ↔ ∃ x ∈ l, dotE x = d := by
  unfold hasD
  rw [List.any_eq_true]
  simp
theorem hasD_no {l : List E3} {d : D2} (h : ∀ x ∈ l, dotE x ≠ d) : hasD l d = false := by
  cases e : hasD l d with
  | false => rfl
  | true =>
    obtain ⟨x, hx, h2⟩ := (hasD_iff l d).1 e
    exact absurd h2 (h x hx)

theorem putL_sort {l : List E3} {d : D2} {v : ByteArray} (hl : SortE l) (hn : ∀ x ∈ l, dotE x ≠ d) : SortE (putL l d v) := by
  induction l with
  | nil => exact List.pairwise_singleton _ _
  | cons a l ih =>
    obtain ⟨h1, h2⟩ := List.pairwise_cons.1 hl
    cases h : ltD d (dotE a) with
    | true =>
      rw [putL_cons_lt a l d v h]
      refine List.pairwise_cons.2 ⟨fun x hx => ?_, hl⟩
      rcases List.mem_cons.1 hx with rfl | hx
      · exact h
      · exact ltD_trans h (h1 x hx)
    | false =>
      rw [putL_cons_ge a l d v h]
      refine List.pairwise_cons.2 ⟨fun x hx => ?_, ih h2 fun x hx => hn x (List.mem_cons_of_mem _ hx)⟩
      rcases (putL_mem l d v x).1 hx with hx | rfl
      · exact h1 x hx
      · exact ltD_tri h (fun e => hn a (by simp) e.symm)

/-- Two such rows of the same members are one. -/
theorem sort_one : ∀ {l m : List E3}, SortE l → SortE m → (∀ x, x ∈ l ↔ x ∈ m) → l = m
  | [], [], _, _, _ => rfl
  | [], y :: m, _, _, h => by have := (h y).2 (by simp); simp at this
  | x :: l, [], _, _, h => by have := (h x).1 (by simp); simp at this
  | x :: l, y :: m, hl, hm, h => by
    obtain ⟨hl1, hl2⟩ := List.pairwise_cons.1 hl
    obtain ⟨hm1, hm2⟩ := List.pairwise_cons.1 hm
    have e : x = y := by
      rcases List.mem_cons.1 ((h x).1 (by simp)) with h1 | h1
      · exact h1
      · rcases List.mem_cons.1 ((h y).2 (by simp)) with h2 | h2
        · exact h2.symm
        · have a := hl1 y h2
          have b := ltD_asymm (hm1 x h1)
          rw [a] at b
          simp at b
    subst e
    have irr : ∀ z, ltD (dotE z) (dotE z) = true → False := fun z h => by rw [ltD_irr] at h; simp at h
    rw [sort_one hl2 hm2 fun z => ⟨fun hz => ?_, fun hz => ?_⟩]
    · rcases List.mem_cons.1 ((h z).1 (List.mem_cons_of_mem _ hz)) with h1 | h1
      · exact (irr x (by have := hl1 z hz; rw [h1] at this; exact this)).elim
      · exact h1
    · rcases List.mem_cons.1 ((h z).2 (List.mem_cons_of_mem _ hz)) with h1 | h1
      · exact (irr x (by have := hm1 z hz; rw [h1] at this; exact this)).elim
      · exact h1

theorem dotN_inj {i j : Nat} (h : dotN i = dotN j) : i = j := by
  unfold dotN at h
  simp only [Prod.mk.injEq] at h
  omega

/-- The n-th entry. -/
def entN (f : Nat → ByteArray) (i : Nat) : E3 := ⟨(dotN i).1, (dotN i).2, f i⟩
theorem dot_entN (f : Nat → ByteArray) (i : Nat) : dotE (entN f i) = dotN i := rfl

/-- The entries once those of g 0 .. g (i - 1) were put. -/
def accL (f : Nat → ByteArray) (g : Nat → Nat) : Nat → List E3
  | 0 => []
  | i + 1 => putL (accL f g i) (dotN (g i)) (f (g i))

theorem accL_mem (f : Nat → ByteArray) (g : Nat → Nat) (i : Nat) (x : E3) : x ∈ accL f g i ↔ ∃ j, j < i ∧ x = entN f (g j) := by
  induction i with
  | zero => simp [accL]
  | succ i ih =>
    rw [accL, putL_mem, ih]
    constructor
    · rintro (⟨j, h1, h2⟩ | h)
      · exact ⟨j, by omega, h2⟩
      · exact ⟨i, by omega, h⟩
    · rintro ⟨j, h1, h2⟩
      by_cases h : j = i
      · subst h; exact Or.inr h2
      · exact Or.inl ⟨j, by omega, h2⟩
theorem accL_len (f : Nat → ByteArray) (g : Nat → Nat) (i : Nat) : (accL f g i).length = i := by
  induction i with
  | zero => rfl
  | succ i ih => rw [accL, putL_len, ih]
theorem accL_free (f : Nat → ByteArray) (g : Nat → Nat) (i : Nat) (hg : ∀ j, j < i → g j ≠ g i) : ∀ x ∈ accL f g i, dotE x ≠ dotN (g i) := fun x hx h => by
  obtain ⟨j, h1, rfl⟩ := (accL_mem f g i x).1 hx
  exact hg j h1 (dotN_inj h)
theorem accL_sort (f : Nat → ByteArray) (g : Nat → Nat) (i : Nat) (hg : ∀ j k, j < k → k < i → g j ≠ g k) : SortE (accL f g i) := by
  induction i with
  | zero => exact List.Pairwise.nil
  | succ i ih => exact putL_sort (ih fun j k h1 h2 => hg j k h1 (by omega)) (accL_free f g i fun j h => hg j i h (by omega))
theorem accL_small (f : Nat → ByteArray) (g : Nat → Nat) (i : Nat) (hi : i ≤ 64) (hf : ∀ j, j < i → (f (g j)).size ≤ 256) : Small (accL f g i) :=
  ⟨by rw [accL_len]; exact hi, fun x hx => by
    obtain ⟨j, h1, rfl⟩ := (accL_mem f g i x).1 hx
    exact hf j h1⟩

/-- In whichever row they were put. -/
theorem accL_rev (f : Nat → ByteArray) (k : Nat) : accL f (fun j => k - 1 - j) k = accL f (fun j => j) k := by
  refine sort_one (accL_sort _ _ _ fun a b h1 h2 => by omega) (accL_sort _ _ _ fun a b h1 h2 => by omega) fun x => ?_
  rw [accL_mem, accL_mem]
  constructor
  · rintro ⟨j, h1, h2⟩
    exact ⟨k - 1 - j, by omega, h2⟩
  · rintro ⟨j, h1, h2⟩
    exact ⟨k - 1 - j, by omega, by rw [h2, show k - 1 - (k - 1 - j) = j by omega]⟩

theorem eqS_iff (a b : ByteArray) : eqS a b = true ↔ a = b := by
  unfold eqS
  rw [beq_iff_eq]
  constructor
  · intro h
    apply ByteArray.ext
    have h2 : a.data.toList = b.data.toList := by simpa [ByteArray.toList_eq] using h
    simpa using h2
  · intro h
    rw [h]

/-- The dots that are to go, of the first i. -/
def goneL (b : Nat → Bool) : Nat → List D2
  | 0 => []
  | i + 1 => goneL b i ++ (if b i = true then [dotN i] else [])
theorem goneL_mem (b : Nat → Bool) (i : Nat) (d : D2) : d ∈ goneL b i ↔ ∃ j, j < i ∧ b j = true ∧ d = dotN j := by
  induction i with
  | zero => simp [goneL]
  | succ i ih =>
    rw [goneL, List.mem_append, ih]
    constructor
    · rintro (⟨j, h1, h2⟩ | h)
      · exact ⟨j, by omega, h2⟩
      · by_cases hb : b i = true
        · rw [if_pos hb] at h
          exact ⟨i, by omega, hb, by simpa using h⟩
        · rw [if_neg hb] at h
          simp at h
    · rintro ⟨j, h1, h2, h3⟩
      by_cases h : j = i
      · subst h; exact Or.inr (by rw [if_pos h2, h3]; simp)
      · exact Or.inl ⟨j, by omega, h2, h3⟩
theorem goneL_le (b : Nat → Bool) (i : Nat) : (goneL b i).length ≤ i := by
  induction i with
  | zero => simp [goneL]
  | succ i ih =>
    rw [goneL, List.length_append]
    split <;> simp <;> omega
theorem goneL_at {b : Nat → Bool} {j k : Nat} (h : j < k) : decide (dotN j ∈ goneL b k) = b j := by
  cases hb : b j with
  | true => exact decide_eq_true ((goneL_mem b k _).2 ⟨j, h, hb, rfl⟩)
  | false =>
    refine decide_eq_false fun h2 => ?_
    obtain ⟨i, h1, h3, h4⟩ := (goneL_mem b k _).1 h2
    rw [dotN_inj h4, h3] at hb
    simp at hb

theorem filter_putL (P : E3 → Bool) (l : List E3) (d : D2) (v : ByteArray) : ((putL l d v).filter P).length = (l.filter P).length + (if P ⟨d.1, d.2, v⟩ = true then 1 else 0) := by
  induction l with
  | nil =>
    show (List.filter P [(⟨d.1, d.2, v⟩ : E3)]).length = _
    rw [List.filter_cons]
    split <;> simp
  | cons a l ih =>
    cases h : ltD d (dotE a) with
    | true =>
      rw [putL_cons_lt a l d v h, List.filter_cons]
      split <;> simp
    | false =>
      rw [putL_cons_ge a l d v h, List.filter_cons, List.filter_cons]
      split <;> simp [ih]
      omega

theorem drop_len (f : Nat → ByteArray) (b : Nat → Bool) (k : Nat) : ∀ i, i ≤ k → ((accL f (fun j => j) i).filter fun x => !decide (dotE x ∈ goneL b k)).length + (goneL b i).length = i
  | 0, _ => by simp [accL, goneL]
  | i + 1, h => by
    have ih := drop_len f b k i (by omega)
    rw [accL, filter_putL, goneL, List.length_append]
    have e : decide (dotE ⟨(dotN i).1, (dotN i).2, f i⟩ ∈ goneL b k) = b i := goneL_at (by omega)
    rw [e]
    cases hb : b i with
    | true => simp; omega
    | false => simp; omega
theorem drop_count (f : Nat → ByteArray) (b : Nat → Bool) (k : Nat) : (dropL (accL f (fun j => j) k) (goneL b k)).length + (goneL b k).length = k := drop_len f b k k (Nat.le_refl _)
theorem drop_mem (f : Nat → ByteArray) (b : Nat → Bool) (k : Nat) (x : E3) : x ∈ dropL (accL f (fun j => j) k) (goneL b k) ↔ ∃ j, j < k ∧ b j = false ∧ x = entN f j := by
  unfold dropL
  rw [List.mem_filter, accL_mem]
  constructor
  · rintro ⟨⟨j, h1, rfl⟩, h3⟩
    rw [dot_entN, goneL_at h1] at h3
    exact ⟨j, h1, by simpa using h3, rfl⟩
  · rintro ⟨j, h1, h2, rfl⟩
    refine ⟨⟨j, h1, rfl⟩, ?_⟩
    rw [dot_entN, goneL_at h1, h2]
    rfl

theorem small_drop {l : List E3} (h : Small l) (ds : List D2) : Small (dropL l ds) :=
  ⟨Nat.le_trans (List.length_filter_le _ _) h.1, fun x hx => h.2 x (List.mem_filter.1 hx).1⟩

/-- The first m values that stand. -/
def wantL (q : Nat → S8) (s : Nat → Bool) : Nat → List S8
  | 0 => []
  | m + 1 => wantL q s m ++ (if s m = true then [q m] else [])
theorem wantL_mem (q : Nat → S8) (s : Nat → Bool) (m : Nat) (x : S8) : x ∈ wantL q s m ↔ ∃ j, j < m ∧ s j = true ∧ x = q j := by
  induction m with
  | zero => simp [wantL]
  | succ i ih =>
    rw [wantL, List.mem_append, ih]
    constructor
    · rintro (⟨j, h1, h2⟩ | h)
      · exact ⟨j, by omega, h2⟩
      · by_cases hb : s i = true
        · rw [if_pos hb] at h
          exact ⟨i, by omega, hb, by simpa using h⟩
        · rw [if_neg hb] at h
          simp at h
    · rintro ⟨j, h1, h2, h3⟩
      by_cases h : j = i
      · subst h; exact Or.inr (by rw [if_pos h2, h3]; simp)
      · exact Or.inl ⟨j, by omega, h2, h3⟩
theorem wantL_le (q : Nat → S8) (s : Nat → Bool) (m : Nat) : (wantL q s m).length ≤ m := by
  induction m with
  | zero => simp [wantL]
  | succ i ih =>
    rw [wantL, List.length_append]
    split <;> simp <;> omega
theorem wantL_asc (q : Nat → S8) (s : Nat → Bool) (m : Nat) (hq : ∀ i j, i < j → j < m → q i < q j) : Asc (wantL q s m) := by
  induction m with
  | zero => exact List.Pairwise.nil
  | succ i ih =>
    rw [wantL]
    refine List.pairwise_append.2 ⟨ih fun a b h1 h2 => hq a b h1 (by omega), ?_, fun x hx y hy => ?_⟩
    · split
      · exact List.pairwise_singleton _ _
      · exact List.Pairwise.nil
    · obtain ⟨j, h1, h2, rfl⟩ := (wantL_mem q s i x).1 hx
      by_cases hb : s i = true
      · rw [if_pos hb] at hy
        obtain rfl : y = q i := by simpa using hy
        exact hq j i h1 (by omega)
      · rw [if_neg hb] at hy
        simp at hy

/-- Is value m put by one of the first i that stays? -/
def stays (b : Nat → Bool) (p : Nat → Nat) : Nat → Nat → Bool
  | 0, _ => false
  | i + 1, m => stays b p i m || (!b i && decide (p i = m))
theorem stays_iff (b : Nat → Bool) (p : Nat → Nat) (i m : Nat) : stays b p i m = true ↔ ∃ j, j < i ∧ b j = false ∧ p j = m := by
  induction i with
  | zero => simp [stays]
  | succ i ih =>
    rw [stays, Bool.or_eq_true, ih]
    simp only [Bool.and_eq_true, Bool.not_eq_true', decide_eq_true_eq]
    constructor
    · rintro (⟨j, h1, h2⟩ | h)
      · exact ⟨j, by omega, h2⟩
      · exact ⟨i, by omega, h⟩
    · rintro ⟨j, h1, h2, h3⟩
      by_cases h : j = i
      · subst h; exact Or.inr ⟨h2, h3⟩
      · exact Or.inl ⟨j, by omega, h2, h3⟩

/-- What the set tells behind the drop. -/
theorem rows_vals (q : Nat → S8) (b : Nat → Bool) (p : Nat → Nat) (k M : Nat) (hq : ∀ i j, i < j → j < M → q i < q j) (hp : ∀ j, j < k → p j < M) :
    setV (valsL (dropL (accL (fun j => ⟨(q (p j)).toArray⟩) (fun j => j) k) (goneL b k))) = wantL q (stays b p k) M := by
  refine (setV_of (wantL_asc q _ M hq) fun x => ?_).symm
  rw [wantL_mem]
  unfold valsL
  rw [List.mem_map]
  constructor
  · rintro ⟨m, h1, h2, rfl⟩
    obtain ⟨j, h3, h4, rfl⟩ := (stays_iff b p k m).1 h2
    exact ⟨_, (drop_mem _ b k _).2 ⟨j, h3, h4, rfl⟩, by simp [entN]⟩
  · rintro ⟨y, hy, rfl⟩
    obtain ⟨j, h3, h4, rfl⟩ := (drop_mem _ b k _).1 hy
    exact ⟨p j, hp j h3, (stays_iff b p k _).2 ⟨j, h3, h4, rfl⟩, by simp [entN]⟩

theorem bytes_eq {a b : ByteArray} (h : a.data.toList = b.data.toList) : a = b := by
  apply ByteArray.ext
  simpa using h
theorem bytes_back (a : ByteArray) : (⟨a.data.toList.toArray⟩ : ByteArray) = a := by simp

/-! One value, put many times. -/

theorem sees_dots (v : ByteArray) (k : Nat) : dotsL (accL (fun _ => v) (fun j => j) k) v = (accL (fun _ => v) (fun j => j) k).map dotE := by
  unfold dotsL
  rw [List.filter_eq_self.2]
  intro x hx
  obtain ⟨j, h1, rfl⟩ := (accL_mem _ _ _ x).1 hx
  exact (eqS_iff _ _).2 rfl
theorem sees_mem (v : ByteArray) (k : Nat) (d : D2) : d ∈ dotsL (accL (fun _ => v) (fun j => j) k) v ↔ ∃ j, j < k ∧ d = dotN j := by
  rw [sees_dots, List.mem_map]
  constructor
  · rintro ⟨x, hx, rfl⟩
    obtain ⟨j, h1, rfl⟩ := (accL_mem _ _ _ x).1 hx
    exact ⟨j, h1, rfl⟩
  · rintro ⟨j, h1, rfl⟩
    exact ⟨entN (fun _ => v) j, (accL_mem _ _ _ _).2 ⟨j, h1, rfl⟩, rfl⟩
theorem sees_len (v : ByteArray) (k : Nat) : (dotsL (accL (fun _ => v) (fun j => j) k) v).length = k := by rw [sees_dots, List.length_map, accL_len]
theorem sees_none (v : ByteArray) (k : Nat) : dropL (accL (fun _ => v) (fun j => j) k) (dotsL (accL (fun _ => v) (fun j => j) k) v) = [] := by
  unfold dropL
  rw [List.filter_eq_nil_iff]
  intro x hx
  obtain ⟨j, h1, rfl⟩ := (accL_mem _ _ _ x).1 hx
  simp only [Bool.not_eq_true', decide_eq_false_iff_not, Decidable.not_not]
  exact (sees_mem v k _).2 ⟨j, h1, rfl⟩
theorem sees_one (v : ByteArray) (k : Nat) : dropL (accL (fun _ => v) (fun j => j) (k + 1)) (dotsL (accL (fun _ => v) (fun j => j) k) v) = [entN (fun _ => v) k] := by
  refine sort_one ?_ (List.pairwise_singleton _ _) fun x => ?_
  · exact List.Pairwise.sublist List.filter_sublist (accL_sort _ _ _ fun a b h1 h2 => by omega)
  · unfold dropL
    rw [List.mem_filter, accL_mem]
    constructor
    · rintro ⟨⟨j, h1, rfl⟩, h3⟩
      have h4 : ¬ (dotE (entN (fun _ => v) j) ∈ dotsL (accL (fun _ => v) (fun j => j) k) v) := by simpa using h3
      rw [sees_mem] at h4
      have : j = k := by
        rcases Nat.lt_or_ge j k with h5 | h5
        · exact absurd ⟨j, h5, rfl⟩ h4
        · omega
      subst this
      simp
    · intro hx
      obtain rfl : x = entN (fun _ => v) k := by simpa using hx
      refine ⟨⟨k, by omega, rfl⟩, ?_⟩
      have h4 : ¬ (dotE (entN (fun _ => v) k) ∈ dotsL (accL (fun _ => v) (fun j => j) k) v) := by
        rw [sees_mem]
        rintro ⟨j, h1, h2⟩
        have := dotN_inj h2
        omega
      simpa using h4
theorem sees_vals (v : ByteArray) (k : Nat) : setV (valsL [entN (fun _ => v) k]) = [v.data.toList] := by
  refine (setV_of (List.pairwise_singleton _ _) fun x => ?_).symm
  simp [valsL, entN]

/-! How many dots the values have. -/

theorem dots_some {L : List E3} {ws : List S8} (h : setV (valsL L) = ws) {i : Nat} {x : S8} (hx : ws[i]? = some x) : 0 < (dotsL L ⟨x.toArray⟩).length := by
  have hm : x ∈ valsL L := (setV_mem _ _).1 (h ▸ List.mem_of_getElem? hx)
  obtain ⟨y, hy, rfl⟩ := List.mem_map.1 hm
  have : dotE y ∈ dotsL L ⟨y.val.data.toList.toArray⟩ := by
    unfold dotsL
    refine List.mem_map.2 ⟨y, List.mem_filter.2 ⟨hy, (eqS_iff _ _).2 (by simp)⟩, rfl⟩
  exact List.length_pos_of_mem this

/-- The dots of the first i values. -/
def sumD (L : List E3) (ws : List S8) : Nat → Nat
  | 0 => 0
  | i + 1 => sumD L ws i + (dotsL L ⟨(ws.getD i []).toArray⟩).length
theorem sumD_at {L : List E3} {ws : List S8} (ha : Asc ws) : ∀ i, i ≤ ws.length → sumD L ws i = (L.filter fun x => decide (x.val.data.toList ∈ ws.take i)).length
  | 0, _ => by
    rw [List.filter_eq_nil_iff.2 (by simp)]
    rfl
  | i + 1, h => by
    rw [sumD, sumD_at ha i (by omega)]
    have hw : ws[i]? = some ws[i] := List.getElem?_eq_getElem (by omega)
    have hg : ws.getD i [] = ws[i] := by simp [List.getD, hw]
    rw [hg]
    unfold dotsL
    rw [List.length_map]
    have hn : ws[i] ∉ ws.take i := fun hm => by
      obtain ⟨j, hj, e⟩ := List.getElem_of_mem hm
      rw [List.length_take] at hj
      rw [List.getElem_take] at e
      have := List.pairwise_iff_getElem.1 ha j i (by omega) (by omega) (by omega)
      rw [e] at this
      exact s8_irr _ this
    generalize hz : ws[i] = z at *
    have hT : ws.take (i + 1) = ws.take i ++ [z] := by rw [List.take_add_one, hw]; rfl
    rw [hT]
    clear hw hg hT hz h
    generalize ws.take i = T at *
    have e3 : ∀ s : S8, decide (s ∈ T ++ [z]) = (decide (s ∈ T) || decide (s = z)) := fun s => by rw [← Bool.decide_or]; exact decide_eq_decide.2 (by simp)
    simp only [e3]
    clear e3
    induction L with
    | nil => rfl
    | cons y L ih =>
      rw [List.filter_cons, List.filter_cons, List.filter_cons]
      have e2 : eqS y.val ⟨z.toArray⟩ = decide (y.val.data.toList = z) := by
        by_cases e : y.val.data.toList = z
        · rw [decide_eq_true e, eqS_iff]
          exact bytes_eq (by simpa using e)
        · rw [decide_eq_false e]
          cases hq : eqS y.val ⟨z.toArray⟩ with
          | false => rfl
          | true => exact absurd (by rw [(eqS_iff _ _).1 hq]) e
      rw [e2]
      by_cases e : y.val.data.toList = z
      · have hy : y.val.data.toList ∉ T := by rw [e]; exact hn
        simp [e, hn]
        omega
      · by_cases hy : y.val.data.toList ∈ T
        · simp [e, hy]
          omega
        · simp [e, hy]
          omega
theorem sumD_all {L : List E3} {ws : List S8} (h : setV (valsL L) = ws) : sumD L ws ws.length = L.length := by
  rw [sumD_at (h ▸ setV_asc _) _ (Nat.le_refl _), List.take_length, List.filter_eq_self.2]
  intro x hx
  refine decide_eq_true (h ▸ (setV_mem _ _).2 (List.mem_map.2 ⟨x, hx, rfl⟩))
theorem sumD_step (L : List E3) {ws : List S8} {i : Nat} {x : S8} (hx : ws[i]? = some x) : sumD L ws (i + 1) = sumD L ws i + (dotsL L ⟨x.toArray⟩).length := by
  rw [sumD]
  simp [List.getD, hx]

theorem dots_none {L : List E3} {v : ByteArray} (h : ∀ x ∈ L, x.val.size < v.size) : dotsL L v = [] := by
  unfold dotsL
  rw [List.map_eq_nil_iff, List.filter_eq_nil_iff]
  intro x hx e
  have := h x hx
  rw [(eqS_iff _ _).1 e] at this
  omega

theorem sumD_le {L : List E3} {ws : List S8} (h : setV (valsL L) = ws) {i : Nat} (hi : i ≤ ws.length) : sumD L ws i ≤ L.length := by
  rw [sumD_at (h ▸ setV_asc _) _ hi]
  exact List.length_filter_le _ _

end Go.Proofs.YtgkddimijmnpcaaGreatDoor

/-
  Package fresh's Cell, with the room of its elements.
-/
namespace Go.Proofs.YtgkddimijmnpcaaGreatDoor
open Go.RowKit Go.Shelf
set_option linter.unusedVariables false
set_option linter.unusedSimpArgs false

/-- The list's block is another one. -/
def Apart (ao : Option Addr) (xs : List Value) (row : Option Nat) : Prop := 0 < xs.length → ∀ b, ao = some ⟨b, 0, none⟩ → some b ≠ row

/-- A list stays while another one's row is written. -/
theorem gb_apart {w w' : World} {row : Option Nat} {B : Nat} {ao : Option Addr} {xs : List Value} (h : w.grownBy w' row) (hr : Apart ao xs row) (F : FOwn B w ao xs) : FOwn B w' ao xs := fun h0 => by
  obtain ⟨b, h1, h4, h2, h3⟩ := F h0
  have hne : some b ≠ row := hr h0 b h1
  exact ⟨b, h1, h4, Nat.lt_of_lt_of_le h2 h.size, fun i u hu => ⟨(World.cell?_of_block (a := ⟨b, i, none⟩) (h.block b h2 hne)).trans (h3 i u hu).1, (World.frozen?_of_block (a := ⟨b, i, none⟩) (h.block b h2 hne)).trans (h3 i u hu).2⟩⟩

/-- A cell's lists in memory of their own, the elements' row apart from the others. -/
def PartsL (B : Nat) (w : World) (c : Ce) (q : Pl) : Prop :=
  w.ownsRow B 59 5 (.slice q.lo c.elems.length q.lc) c.elems.length (flatL c.elems) ∧ FOwn B w q.eo (flatE c.ents) ∧ FOwn B w q.so (flatI c.seen) ∧ Apart q.eo (flatE c.ents) (Value.slice q.lo c.elems.length q.lc).ownBlock ∧ Apart q.so (flatI c.seen) (Value.slice q.lo c.elems.length q.lc).ownBlock

theorem PartsL.own {B : Nat} {w : World} {c : Ce} {q : Pl} (h : PartsL B w c q) : COwn B w c q := ⟨h.2.1, own_row h.1, h.2.2.1⟩
theorem PartsL.mono {B C : Nat} {w : World} {c : Ce} {q : Pl} (h : PartsL B w c q) (hC : C ≤ B) : PartsL C w c q := ⟨own_mono h.1 hC, h.2.1.mono hC, h.2.2.1.mono hC, h.2.2.2⟩
theorem PartsL.later {B : Nat} {w w' : World} {c : Ce} {q : Pl} (h : PartsL B w c q) (hb : Below w.heap.size w w') : PartsL B w' c q := ⟨own_later h.1 hb, h.2.1.later hb, h.2.2.1.later hb, h.2.2.2⟩
theorem PartsL.put10 {B : Nat} {w : World} {c : Ce} {q : Pl} (h : PartsL B w c q) {g : Nat} (hg : g < B) (u0 u1 u2 u3 u4 u5 u6 u7 u8 u9 : Value) : PartsL B (put10 w g u0 u1 u2 u3 u4 u5 u6 u7 u8 u9) c q :=
  ⟨own_put10 h.1 hg _ _ _ _ _ _ _ _ _ _, h.2.1.put10 hg _ _ _ _ _ _ _ _ _ _, h.2.2.1.put10 hg _ _ _ _ _ _ _ _ _ _, h.2.2.2⟩

/-- The end of a copy, whatever placement q. -/
theorem freshL_end {fn : Func} {act : Act} {w w3 : World} {h : Nat} {c : Ce} {q : Pl} (H : Copy0 w h c q w3) (HO : PartsL (h + 2) w3 c q) (hr : fn.results = #[.cell 2 30]) (h2 : act.tmps[2]? = some (.pointer (some ⟨h + 1, 0, none⟩))) (hd : act.defers = []) :
    bodyPost Tryz.prog fn (fun e w' => ∃ q, e = .returned (ceV c q) ∧ PartsL h w' c q ∧ Below h w w') Exit.ret act (put10 w3 (h + 1) (.int .i64 c.kind) (.bool c.set) (.int .i64 c.time) (.int .i64 c.node) (.string c.val) (.int .i64 c.re) (.int .i64 c.im) (.slice q.eo c.ents.length q.ec) (.slice q.lo c.elems.length q.lc) (.slice q.so c.seen.length q.sc)) :=
  bodyPost_ret (ret_cell hr h2 (H.2.2.put10 _ _ _ _ _ _ _ _ _ _)) hd ⟨q, rfl, (HO.put10 (by omega) _ _ _ _ _ _ _ _ _ _).mono (by omega), below_put10 H.1 (by omega) _ _ _ _ _ _ _ _ _ _⟩

set_option maxHeartbeats 1000000 in
set_option maxRecDepth 100000 in
theorem felemsO_any (ao : Option Addr) (ca : Nat) (l : List L5) (w : World) (hr : FRow w ao (flatL l)) (hn : l.length * 48 ≤ 140737488351232) (hs : ∀ (i : Nat) x, l[i]? = some x → x.val.size ≤ 140737488351232) :
    Calls Tryz.prog 133 #[.slice ao l.length ca] w fun e w' => ∃ bo cb, e = .returned (.slice bo l.length cb) ∧ w'.ownsRow w.heap.size 59 5 (.slice bo l.length cb) l.length (flatL l) ∧ Below w.heap.size w w' := by
  have HS : Hid (∀ (i : Nat) x, l[i]? = some x → x.val.size ≤ 140737488351232) := hs
  clear hs
  obtain ⟨h, hh⟩ : ∃ h, w.heap.size = h := ⟨_, rfl⟩
  rw [hh]
  go_enter Tryz.func133, Tryz.ntmps133
  go_wp2_with (at_builtin; refine wpList_onto rfl _ _ 27 rfl Tryz.underlying27 Tryz.infoElem rfl (by decide) (by decide) (B := h) rfl rfl (own_nil w h _ _) hr (flatL_len _) (fun u hu => oneL hu) (by omega) (by omega) ?_; intro bo cb w1 o1 n1 b1; simp only [Nat.zero_add, List.nil_append] at o1 ⊢; have O1 : Hid (w1.ownsRow h 59 5 (.slice bo l.length cb) l.length (flatL l) ∧ Below h w w1) := ⟨o1, b1⟩; clear o1 n1 b1 hr)
  by_cases h0 : 0 < l.length
  · obtain ⟨g, rfl, hg, hg1, _⟩ := own_row O1.out.1 (by rw [flatL_len]; omega)
    go_loopg [8] l.length (fun n iv wr => ∃ i : Nat, i + n = l.length ∧ iv = .int .i64 i ∧ wr.ownsRow h 59 5 (.slice (some ⟨g, 0, none⟩) l.length cb) l.length (flatL l) ∧ Below h w wr)
    case atStart => exact ⟨0, by omega, rfl, O1.out.1, O1.out.2⟩
    case round =>
      obtain ⟨i, hin, rfl, hrel⟩ := hrel
      have HW : Hid (wr.ownsRow h 59 5 (.slice (some ⟨g, 0, none⟩) l.length cb) l.length (flatL l) ∧ Below h w wr) := hrel
      clear hrel
      by_cases hi : i < l.length
      · obtain ⟨x, hx⟩ : ∃ x, l[i]? = some x := ⟨_, List.getElem?_eq_getElem hi⟩
        obtain ⟨_, _, _, g2, _⟩ := flatL_at l i hx
        obtain ⟨b, eb, hb1, hb2, hc⟩ := own_row HW.out.1 (by rw [flatL_len]; omega)
        simp only [Option.some.injEq, Addr.mk.injEq, and_true] at eb
        subst eb
        have k2 := (hc _ _ g2).1
        have C := clone_any x.val wr (by have := HS.out i x hx; omega)
        have G2 : Hid ((flatL l)[i * 5 + 3]? = some (.string x.val)) := g2
        clear hc g2 hx
        go_wp2_with fail
        refine C.mono ?_
        rintro e w2 ⟨rfl, b2⟩
        have O2 : Hid (w2.ownsRow h 59 5 (.slice (some ⟨g, 0, none⟩) l.length cb) l.length (flatL l) ∧ Below h w w2) := ⟨own_later HW.out.1 b2, HW.out.2.trans (b2.mono (by omega))⟩
        obtain ⟨b, eb, _, hb3, hc⟩ := own_row O2.out.1 (by rw [flatL_len]; omega)
        simp only [Option.some.injEq, Addr.mk.injEq, and_true] at eb
        subst eb
        have q2 := (hc _ _ G2.out).1
        have q3 := (hc _ _ G2.out).2
        clear C b2 k2 hc
        go_wp2
        go_roundg (gk - 1)
        case measure => omega
        case rel => exact ⟨i + 1, by omega, by go_num, own_same O2.out.1 G2.out, O2.out.2.setCell (p := ⟨g, i * 5 + 3, none⟩) hg _⟩
      · have hd : decide ((i : Int) < (l.length : Int)) = false := by simp; omega
        go_wp2
        go_ret
        exact ⟨_, _, rfl, HW.out.1, HW.out.2⟩
  · obtain rfl : l = [] := List.eq_nil_of_length_eq_zero (by omega)
    refine wp_loop_rounds 1 ?_
    rw [rounds_succ]
    go_wp2
    go_ret
    exact ⟨_, _, rfl, O1.out.1, O1.out.2⟩

set_option maxHeartbeats 1000000 in
set_option maxRecDepth 100000 in
theorem fcellL_any (c : Ce) (p : Pl) (w : World) (hr : CRow w c p) (hf : Fit c) :
    Calls Tryz.prog 100 #[ceV c p] w fun e w' => ∃ q, e = .returned (ceV c q) ∧ PartsL w.heap.size w' c q ∧ Below w.heap.size w w' := by
  have H0 : Hid (Copy0 w w.heap.size c p (((w.alloc (.cells (ceL c p).toArray 30)).alloc (.cells (ceL ce0 pl0).toArray 30)))) := copy0_new w c p 30
  obtain ⟨h, hh⟩ : ∃ h, w.heap.size = h := ⟨_, rfl⟩
  rw [hh] at H0 ⊢
  have HR : Hid (CRow w c p ∧ Fit c) := ⟨hr, hf⟩
  have hv := hf.2.2.2.1
  clear hr hf
  go_enter Tryz.func100, Tryz.ntmps100
  go_wp2_with fail
  refine (clone_any c.val _ (by omega)).mono ?_
  rintro e w1 ⟨rfl, b1⟩
  have H1 : Hid (Copy0 w h c p w1) := H0.out.later b1
  have S1 : Hid (Copy0 w h c p (w1.setCell ⟨h, 4, none⟩ (.string c.val))) := H1.out.set4
  have t7 := H1.out.2.1.at 7 rfl
  have t4 := H1.out.2.1.at 4 rfl
  have y4 := H1.out.2.1.free 4 rfl
  clear b1 H0
  go_wp2_with fail
  refine (fents_any p.eo p.ec c.ents _ (S1.out.row hh HR.out.1).1 HR.out.2.1 HR.out.2.2.2.2.2.1).mono ?_
  rintro e w2 ⟨eo, ec, rfl, o2, n2, b2⟩
  obtain ⟨m1, hm1⟩ : ∃ m1, w2.heap.size = m1 := ⟨_, rfl⟩
  have K2 : Hid (FOwn (h + 2) w2 eo (flatE c.ents) ∧ (0 < (flatE c.ents).length → ∀ b, eo = some ⟨b, 0, none⟩ → b < m1) ∧ h + 2 ≤ m1) := ⟨o2.mono S1.out.size, fun h0 b hb => by
    obtain ⟨b', e1, _, l1, _⟩ := o2 h0
    rw [hb] at e1
    simp only [Option.some.injEq, Addr.mk.injEq, and_true] at e1
    omega, by have := S1.out.size; have := b2.size; omega⟩
  have HM : Hid (w2.heap.size = m1) := hm1
  clear hm1 n2
  have H2 : Hid (Copy0 w h c p w2) := S1.out.later b2
  have S2 : Hid (Copy0 w h c { p with eo := eo, ec := ec } (w2.setCell ⟨h, 7, none⟩ (.slice eo c.ents.length ec))) := H2.out.set7 eo ec
  clear t7 t4 y4 b2 o2 H1 S1
  have t7 := H2.out.2.1.at 7 rfl
  have y7 := H2.out.2.1.free 7 rfl
  have t8 := H2.out.2.1.at 8 rfl
  go_wp2_with fail
  refine (felemsO_any p.lo p.lc c.elems _ (S2.out.row hh HR.out.1).2.1 HR.out.2.2.1 HR.out.2.2.2.2.2.2).mono ?_
  rintro e w3 ⟨lo, lc, rfl, o3, b3⟩
  obtain ⟨m2, hm2⟩ : ∃ m2, w3.heap.size = m2 := ⟨_, rfl⟩
  have hs3 : m1 ≤ m2 := by have := b3.size; rw [← HM.out, ← hm2]; simpa using this
  have K3 : Hid (w3.ownsRow m1 59 5 (.slice lo c.elems.length lc) c.elems.length (flatL c.elems) ∧ FOwn (h + 2) w3 eo (flatE c.ents) ∧ (∀ g, (Value.slice lo c.elems.length lc).ownBlock = some g → m1 ≤ g ∧ g < m2)) := by
    have o3' : w3.ownsRow m1 59 5 (.slice lo c.elems.length lc) c.elems.length (flatL c.elems) := own_mono o3 (by rw [← HM.out]; simp)
    exact ⟨o3', (K2.out.1.off (g := h) (by omega) 7 _).later b3, fun g hg => ⟨(o3'.lt g hg).1, hm2 ▸ (o3'.lt g hg).2⟩⟩
  have HM2 : Hid (w3.heap.size = m2) := hm2
  have H3 : Hid (Copy0 w h c { p with eo := eo, ec := ec } w3) := S2.out.later b3
  have S3 : Hid (Copy0 w h c { p with eo := eo, ec := ec, lo := lo, lc := lc } (w3.setCell ⟨h, 8, none⟩ (.slice lo c.elems.length lc))) := H3.out.set8 lo lc
  clear t7 y7 t8 b3 o3 H2 S2 hm2
  have t8 := H3.out.2.1.at 8 rfl
  have y8 := H3.out.2.1.free 8 rfl
  have t9 := H3.out.2.1.at 9 rfl
  go_wp2_with fail
  refine (fints_any p.so p.sc c.seen _ (S3.out.row hh HR.out.1).2.2 HR.out.2.2.2.1).mono ?_
  rintro e w4 ⟨so, sc, rfl, o4, n4, b4⟩
  have H4 : Hid (Copy0 w h c { p with eo := eo, ec := ec, lo := lo, lc := lc } w4) := S3.out.later b4
  have hm3 := K2.out.2.2
  have E4 : Hid (PartsL (h + 2) (w4.setCell ⟨h, 9, none⟩ (.slice so c.seen.length sc)) c ⟨eo, ec, lo, lc, so, sc⟩) := by
    have o4' : FOwn m2 w4 so (flatI c.seen) := o4.mono (by rw [← HM2.out]; simp)
    refine ⟨own_mono (ownsRow_setCell_below (own_later (ownsRow_setCell_below K3.out.1 (a := ⟨h, 8, none⟩) (by show h < m1; omega) _) b4) (a := ⟨h, 9, none⟩) (by show h < m1; omega) _) hm3, ((K3.out.2.1.off (g := h) (by omega) 8 _).later b4).off (by omega) 9 _, (o4'.mono (by omega)).off (by omega) 9 _, fun h0 b hb e => ?_, fun h0 b hb e => ?_⟩
    · have := (K3.out.2.2 b e.symm).1
      have := K2.out.2.1 h0 b hb
      omega
    · obtain ⟨b', e1, l1, _, _⟩ := o4' h0
      have hb' : so = some ⟨b, 0, none⟩ := hb
      rw [hb'] at e1
      simp only [Option.some.injEq, Addr.mk.injEq, and_true] at e1
      have := (K3.out.2.2 b e.symm).2
      omega
  have H5 : Hid (Copy0 w h c ⟨eo, ec, lo, lc, so, sc⟩ (w4.setCell ⟨h, 9, none⟩ (.slice so c.seen.length sc))) := H4.out.set9 so sc
  clear t8 y8 t9 b4 n4 o4 H3 S3
  obtain ⟨t0, t1, t2, t3, t4, t5, t6, t7, t8, t9⟩ := H4.out.2.1.ten
  have y9 := H4.out.2.1.free 9 rfl
  obtain ⟨s0, s1, s2, s3, s4, s5, s6, s7, s8, s9⟩ := H4.out.2.2.ten
  obtain ⟨z0, z1, z2, z3, z4, z5, z6, z7, z8, z9⟩ := H4.out.2.2.tenf
  go_wp2_with fail
  exact freshL_end (q := ⟨eo, ec, lo, lc, so, sc⟩) H5.out E4.out rfl rfl rfl

end Go.Proofs.YtgkddimijmnpcaaGreatDoor

/-
  Package rga's Erase and Compact, by contracts.
-/
namespace Go.Proofs.YtgkddimijmnpcaaGreatDoor
open Go.RowKit Go.Shelf
set_option linter.unusedVariables false
set_option linter.unusedSimpArgs false

/-- A cell with other elements. -/
abbrev cL (c : Ce) (l : List L5) : Ce := ⟨c.kind, c.set, c.time, c.node, c.val, c.re, c.im, c.ents, l, c.seen⟩

theorem flatL_mark : ∀ {l : List L5} {k : Nat}, k < l.length → flatL (l.modify k markX) = ((flatL l).set (k * 5 + 3) (.string ByteArray.empty)).set (k * 5 + 4) (.bool true)
  | [], k, h => by simp at h
  | a :: l, 0, _ => by simp [flatL, l5, markX]
  | a :: l, k + 1, h => by
    have := flatL_mark (l := l) (k := k) (by simpa using h)
    have e : ∀ j, (k + 1) * 5 + j = k * 5 + j + 1 + 1 + 1 + 1 + 1 := fun j => by omega
    simp only [flatL, l5, List.flatMap_cons, List.modify_succ_cons, e, List.cons_append, List.nil_append, List.set_cons_succ] at this ⊢
    rw [this]

/-- The end of a call that is taken. -/
theorem rend {fn : Func} {act : Act} {w W : World} {h a B r : Nat} {d : Ce} {q : Pl} (hB : Below h w W) (HA : Has W a (ceL ce0 pl0)) (HO : COwn B W d q) (ha : h ≤ a) (haB : a < B) (hr : fn.results = #[.cell r 30, .tmp (r + 1)]) (h6 : act.tmps[r]? = some (.pointer (some ⟨a, 0, none⟩))) (h7 : act.tmps[r + 1]? = some (.int .i64 0)) (hd : act.defers = []) :
    bodyPost Tryz.prog fn (fun e w' => ∃ q, e = .returned (.tuple #[ceV d q, .int .i64 0]) ∧ COwn h w' d q ∧ Below h w w') Exit.ret act (put10 W a (.int .i64 d.kind) (.bool d.set) (.int .i64 d.time) (.int .i64 d.node) (.string d.val) (.int .i64 d.re) (.int .i64 d.im) (.slice q.eo d.ents.length q.ec) (.slice q.lo d.elems.length q.lc) (.slice q.so d.seen.length q.sc)) :=
  bodyPost_ret (ret_cell2 hr h6 h7 (HA.put10 _ _ _ _ _ _ _ _ _ _)) hd ⟨q, rfl, (HO.put10 haB _ _ _ _ _ _ _ _ _ _).mono (by omega), below_put10 hB ha _ _ _ _ _ _ _ _ _ _⟩
/-- The end of a call that is not taken. -/
theorem rend_no {fn : Func} {act : Act} {w W : World} {h a r : Nat} {z : Int} (hB : Below h w W) (HA : Has W a (ceL ce0 pl0)) (ha : h ≤ a) (hr : fn.results = #[.cell r 30, .tmp (r + 1)]) (h6 : act.tmps[r]? = some (.pointer (some ⟨a, 0, none⟩))) (h7 : act.tmps[r + 1]? = some (.int .i64 z)) (hd : act.defers = []) :
    bodyPost Tryz.prog fn (fun e w' => e = .returned (.tuple #[ceV ce0 pl0, .int .i64 z]) ∧ Below h w w') Exit.ret act (put10 W a (.int .i64 0) (.bool false) (.int .i64 0) (.int .i64 0) (.string ByteArray.empty) (.int .i64 0) (.int .i64 0) (.slice none 0 0) (.slice none 0 0) (.slice none 0 0)) :=
  bodyPost_ret (ret_cell2 hr h6 h7 (HA.put10 _ _ _ _ _ _ _ _ _ _)) hd ⟨rfl, below_put10 hB ha _ _ _ _ _ _ _ _ _ _⟩

set_option maxHeartbeats 400000 in
set_option maxRecDepth 100000 in
/-- Erase refuses. -/
theorem era_no (c : Ce) (p : Pl) (d : D2) (w : World) (hk : (c.kind != 3) = true) :
    Calls Tryz.prog 65 #[ceV c p, dv d] w fun e w' => e = .returned (.tuple #[ceV ce0 pl0, .int .i64 1000]) ∧ Below w.heap.size w w' := by
  have H0 : Hid (Set3 w w.heap.size c p d.1 d.2 (((w.alloc (.cells (ceL c p).toArray 30)).alloc (.cells #[.int .i64 d.1, .int .i64 d.2] 32)).alloc (.cells (ceL ce0 pl0).toArray 30))) := set3_new _ _ _ _ _ _ _ _
  obtain ⟨h, hh⟩ : ∃ h, w.heap.size = h := ⟨_, rfl⟩
  rw [hh] at H0 ⊢
  go_enter Tryz.func65, Tryz.ntmps65
  go_wp2_with fail
  exact bodyPost_ret (ret_cell2 rfl rfl rfl H0.out.2.2.2) rfl ⟨rfl, H0.out.1⟩

set_option maxHeartbeats 400000 in
set_option maxRecDepth 100000 in
/-- Erase finds none. -/
theorem era_range (c : Ce) (p : Pl) (d : D2) (w : World) (hr : CRow w c p) (hf : Fit c) (hk : (c.kind != 3) = false) (ha : atD c.elems d = none) :
    Calls Tryz.prog 65 #[ceV c p, dv d] w fun e w' => e = .returned (.tuple #[ceV ce0 pl0, .int .i64 1001]) ∧ Below w.heap.size w w' := by
  have H0 : Hid (Set3 w w.heap.size c p d.1 d.2 (((w.alloc (.cells (ceL c p).toArray 30)).alloc (.cells #[.int .i64 d.1, .int .i64 d.2] 32)).alloc (.cells (ceL ce0 pl0).toArray 30))) := set3_new _ _ _ _ _ _ _ _
  have hlen : c.elems.length ≤ maxLen := by have := hf.2.1; unfold maxLen; omega
  obtain ⟨h, hh⟩ : ∃ h, w.heap.size = h := ⟨_, rfl⟩
  rw [hh] at H0 ⊢
  have C := indexOf_any d p.lo p.lc c.elems _ (hr.later (hh.symm ▸ H0.out.1)).2.1 hlen
  rw [numD_none ha] at C
  clear hr hf ha hlen
  go_enter Tryz.func65, Tryz.ntmps65
  go_wp2_with fail
  refine C.mono ?_
  rintro e w1 ⟨rfl, b1⟩
  have H1 : Hid (Set3 w h c p d.1 d.2 w1) := H0.out.later b1
  clear b1 H0 C
  obtain ⟨s0, s1, s2, s3, s4, s5, s6, s7, s8, s9⟩ := H1.out.2.2.2.ten
  obtain ⟨z0, z1, z2, z3, z4, z5, z6, z7, z8, z9⟩ := H1.out.2.2.2.tenf
  go_wp2_with fail
  exact rend_no (a := h + 2) (r := 4) H1.out.1 H1.out.2.2.2 (by omega) rfl rfl rfl rfl

/-- The row of the elements once that one is marked, in either order of the stores. -/
theorem own_mark {B g cp n : Nat} {w : World} {l : List L5} {k : Nat} (h : w.ownsRow B 59 5 (.slice (some ⟨g, 0, none⟩) n cp) n (flatL l)) (hk : k < l.length) :
    ((w.setCell ⟨g, k * 5 + 3, none⟩ (.string ByteArray.empty)).setCell ⟨g, k * 5 + 4, none⟩ (.bool true)).ownsRow B 59 5 (.slice (some ⟨g, 0, none⟩) n cp) n (flatL (l.modify k markX)) ∧
    ((w.setCell ⟨g, k * 5 + 4, none⟩ (.bool true)).setCell ⟨g, k * 5 + 3, none⟩ (.string ByteArray.empty)).ownsRow B 59 5 (.slice (some ⟨g, 0, none⟩) n cp) n (flatL (l.modify k markX)) := by
  rw [flatL_mark hk]
  refine ⟨((h.stored (k * 5 + 3) _).1.stored (k * 5 + 4) _).1, ?_⟩
  rw [List.set_comm _ _ (by omega : k * 5 + 3 ≠ k * 5 + 4)]
  exact ((h.stored (k * 5 + 4) _).1.stored (k * 5 + 3) _).1

/-- What Erase has made ahead of the stores: the copy in block k7. -/
structure FixE (w w3 w5 : World) (h k7 g B : Nat) (c : Ce) (p q : Pl) (d : D2) : Prop where
  s3 : Set3 w h c p d.1 d.2 w5
  h7 : Has w5 k7 (ceL c q)
  pt : PartsL B w5 c q
  p3 : PartsL B w3 c q
  sz : w3.heap.size = k7
  bk : q.lo = some ⟨g, 0, none⟩
  gB : B ≤ g ∧ g < k7
  h3 : h + 3 ≤ B

/-- What the stores leave. -/
def AftE (w : World) (h k7 : Nat) (c : Ce) (q : Pl) (L : List L5) (W : World) : Prop := Below h w W ∧ Has W (h + 2) (ceL ce0 pl0) ∧ Has W k7 (ceL (cL c L) q) ∧ COwn (h + 3) W (cL c L) q

theorem aftE_of {w w3 w5 : World} {h k7 g B : Nat} {c : Ce} {p q : Pl} {d : D2} (F : FixE w w3 w5 h k7 g B c p q d) {k : Nat} (hk : k < c.elems.length) :
    AftE w h k7 c q (c.elems.modify k markX) ((w5.drew.setCell ⟨g, k * 5 + 3, none⟩ (.string ByteArray.empty)).setCell ⟨g, k * 5 + 4, none⟩ (.bool true)) ∧
    AftE w h k7 c q (c.elems.modify k markX) ((w5.drew.setCell ⟨g, k * 5 + 4, none⟩ (.bool true)).setCell ⟨g, k * 5 + 3, none⟩ (.string ByteArray.empty)) := by
  have hgB := F.gB
  have h3 := F.h3
  have hd : Below w5.heap.size w5 w5.drew := (Below.refl _ _).drew
  have S := F.s3.later hd
  have H7 := F.h7.later hd
  have P := F.pt.later hd
  have hlo := P.1
  rw [F.bk] at hlo
  have hrow : (Value.slice q.lo c.elems.length q.lc).ownBlock = some g := by rw [F.bk]; rfl
  have own := own_mark hlo hk
  have hgb : ∀ (o1 o2 : Nat) (v1 v2 : Value), w5.drew.grownBy ((w5.drew.setCell ⟨g, o1, none⟩ v1).setCell ⟨g, o2, none⟩ v2) (some g) := fun o1 o2 v1 v2 => gb_set (gb_set (gb_refl _ _) _ _) _ _
  have key : ∀ (o1 o2 : Nat) (v1 v2 : Value), ((w5.drew.setCell ⟨g, o1, none⟩ v1).setCell ⟨g, o2, none⟩ v2).ownsRow B 59 5 (.slice (some ⟨g, 0, none⟩) c.elems.length q.lc) c.elems.length (flatL (c.elems.modify k markX)) → AftE w h k7 c q (c.elems.modify k markX) ((w5.drew.setCell ⟨g, o1, none⟩ v1).setCell ⟨g, o2, none⟩ v2) := fun o1 o2 v1 v2 ho => by
    have G := hgb o1 o2 v1 v2
    refine ⟨(S.1.setCell (p := ⟨g, o1, none⟩) (by show h ≤ g; omega) v1).setCell (p := ⟨g, o2, none⟩) (by show h ≤ g; omega) v2, (S.2.2.2.other (by omega) _ _).other (by omega) _ _, ?_, ?_, ?_, ?_⟩
    · have := (H7.other (k := g) (by omega) o1 v1).other (k := g) (by omega) o2 v2
      show Has _ k7 [_, _, _, _, _, _, _, _, .slice q.lo (c.elems.modify k markX).length q.lc, _]
      rw [List.length_modify]
      exact this
    · exact (gb_apart G (hrow ▸ P.2.2.2.1) P.2.1).mono (by omega)
    · have := own_row ho
      rw [← F.bk] at this
      exact this.mono (by omega)
    · exact (gb_apart G (hrow ▸ P.2.2.2.2) P.2.2.1).mono (by omega)
  exact ⟨key _ _ _ _ own.1, key _ _ _ _ own.2⟩

set_option maxHeartbeats 2000000 in
set_option maxRecDepth 100000 in
/-- Erase takes it. -/
theorem era_yes (c : Ce) (p : Pl) (d : D2) (k : Nat) (w : World) (hr : CRow w c p) (hf : Fit c) (hk : (c.kind != 3) = false) (ha : atD c.elems d = some k) :
    Calls Tryz.prog 65 #[ceV c p, dv d] w fun e w' => ∃ q, e = .returned (.tuple #[ceV (cL c (c.elems.modify k markX)) q, .int .i64 0]) ∧ COwn w.heap.size w' (cL c (c.elems.modify k markX)) q ∧ Below w.heap.size w w' := by
  have H0 : Hid (Set3 w w.heap.size c p d.1 d.2 (((w.alloc (.cells (ceL c p).toArray 30)).alloc (.cells #[.int .i64 d.1, .int .i64 d.2] 32)).alloc (.cells (ceL ce0 pl0).toArray 30))) := set3_new _ _ _ _ _ _ _ _
  have hlen : c.elems.length ≤ maxLen := by have := hf.2.1; unfold maxLen; omega
  have hkl := atD_lt ha
  obtain ⟨h, hh⟩ : ∃ h, w.heap.size = h := ⟨_, rfl⟩
  rw [hh] at H0 ⊢
  have C := indexOf_any d p.lo p.lc c.elems _ (hr.later (hh.symm ▸ H0.out.1)).2.1 hlen
  rw [numD_some ha] at C
  have HR : Hid (CRow w c p ∧ Fit c ∧ w.heap.size = h) := ⟨hr, hf, hh⟩
  unfold maxLen at hlen
  obtain ⟨L, hL⟩ : ∃ L, c.elems.modify k markX = L := ⟨_, rfl⟩
  rw [hL]
  have HL : Hid (c.elems.modify k markX = L ∧ L.length = c.elems.length) := ⟨hL, hL ▸ List.length_modify ..⟩
  clear hr hf ha hL
  go_enter Tryz.func65, Tryz.ntmps65
  go_wp2_with fail
  refine C.mono ?_
  rintro e w2 ⟨rfl, b1⟩
  have H2 : Hid (Set3 w h c p d.1 d.2 w2) := H0.out.later b1
  clear b1 H0 C
  obtain ⟨B, hB⟩ : ∃ B, w2.heap.size = B := ⟨_, rfl⟩
  have hB3 : h + 3 ≤ B := by have := H2.out.size; omega
  obtain ⟨t0, t1, t2, t3, t4, t5, t6, t7, t8, t9⟩ := H2.out.2.1.ten
  have hkn : decide ((k : Int) < 0) = false := by simp
  go_wp2_with fail
  refine (fcellL_any c p _ (HR.out.1.later (HR.out.2.2.symm ▸ H2.out.1)) HR.out.2.1).mono ?_
  rintro e w3 ⟨q, rfl, P3, b3⟩
  rw [hB] at P3 b3
  obtain ⟨k7, hk7⟩ : ∃ k, w3.heap.size = k := ⟨_, rfl⟩
  have hal : Below w3.heap.size w3 (w3.alloc (.cells (ceL c q).toArray 30)) := (Below.refl _ _).alloc (Nat.le_refl _) _
  have hk7B : B ≤ k7 := by have := b3.size; omega
  obtain ⟨g, hg⟩ : ∃ g, q.lo = some ⟨g, 0, none⟩ := by
    obtain ⟨b, e, _⟩ := own_row P3.1 (by rw [flatL_len]; omega)
    exact ⟨b, e⟩
  have hgb : B ≤ g ∧ g < k7 := by
    have := P3.1.lt g (by rw [hg]; rfl)
    omega
  have HF : Hid (FixE w w3 (w3.alloc (.cells (ceL c q).toArray 30)) h k7 g B c p q d) := ⟨(H2.out.later (hB.symm ▸ b3)).later hal, hk7 ▸ has_new w3 (ceL c q) _, P3.later hal, P3, hk7, hg, hgb, hB3⟩
  clear P3 b3 hal t0 t1 t2 t3 t4 t5 t6 t7 t8 t9 H2 hg
  go_upto_region 7 with fail
  generalize hW : w3.alloc (.cells (ceL c q).toArray 30) = w5 at HF ⊢
  clear hW hB hk7
  have t8 := HF.out.h7.at 8 rfl
  rw [HF.out.bk] at t8
  have ow := HF.out.pt.1
  rw [HF.out.bk] at ow
  obtain ⟨x, hx⟩ : ∃ x, c.elems[k]? = some x := ⟨_, List.getElem?_eq_getElem hkl⟩
  obtain ⟨_, _, _, g3, g4⟩ := flatL_at c.elems k hx
  have c3 := (ow.cellAt (k * 5 + 3) (by omega)).trans g3
  have c4 := (ow.cellAt (k * 5 + 4) (by omega)).trans g4
  have f3 := ow.frozenAt (k * 5 + 3)
  have f4 := ow.frozenAt (k * 5 + 4)
  have hkl2 : (k : Int) < (c.elems.length : Int) := by omega
  have hgk : g ≠ k7 := by omega
  clear ow hx g3 g4
  go_cut [7] from 8 to 31 (fun r wx => r = .pointer (some ⟨k7, 0, none⟩) ∧ Hid (AftE w h k7 c q L wx))
  case first =>
    go_region
    all_goals
      (go_wp2
       go_meet
       case rel => exact ⟨rfl, HL.out.1 ▸ (by first | exact (aftE_of HF.out hkl).1 | exact (aftE_of HF.out hkl).2)⟩)
  case rest =>
    obtain ⟨w8, rfl⟩ : ∃ z, z = wc := ⟨_, rfl⟩
    obtain ⟨rfl, HQ⟩ := hcut
    clear HF t8 c3 c4 f3 f4
    obtain ⟨t0, t1, t2, t3, t4, t5, t6, t7, t8, t9⟩ := HQ.out.2.2.1.ten
    obtain ⟨s0, s1, s2, s3, s4, s5, s6, s7, s8, s9⟩ := HQ.out.2.1.ten
    obtain ⟨z0, z1, z2, z3, z4, z5, z6, z7, z8, z9⟩ := HQ.out.2.1.tenf
    go_wp2_with fail
    exact rend (d := cL c L) (a := h + 2) (B := h + 3) (r := 4) HQ.out.1 HQ.out.2.1 HQ.out.2.2.2 (by omega) (by omega) rfl rfl rfl rfl

/-! Compact. -/

end Go.Proofs.YtgkddimijmnpcaaGreatDoor

/-
  The document's own place, live, ListValues, At, Erase, Compact, by contracts.
-/
namespace Go.Proofs.YtgkddimijmnpcaaGreatDoor
open Go.RowKit Go.Shelf
set_option linter.unusedVariables false
set_option linter.unusedSimpArgs false

/-- What place begins with. -/
def PlB (w : World) (h : Nat) (c : Ce) (p : Pl) (d : D2) (w1 : World) : Prop := Below h w w1 ∧ Has w1 h (ceL c p) ∧ Has w1 (h + 1) [.int .i64 d.1, .int .i64 d.2]
theorem plB_new (w : World) (c : Ce) (p : Pl) (d : D2) (t1 t2 : TypeId) : PlB w w.heap.size c p d ((w.alloc (.cells (ceL c p).toArray t1)).alloc (.cells #[.int .i64 d.1, .int .i64 d.2] t2)) := by
  refine ⟨((Below.refl _ _).alloc (Nat.le_refl _) _).alloc (by simp) _, (has_new _ _ _).alloc _, ?_⟩
  have := has_new (w.alloc (.cells (ceL c p).toArray t1)) [.int .i64 d.1, .int .i64 d.2] t2
  simpa using this
theorem plB_drew {w w1 : World} {h : Nat} {c : Ce} {p : Pl} {d : D2} (H : PlB w h c p d w1) : PlB w h c p d w1.drew := ⟨H.1.drew, H.2.1.later (Below.refl _ _).drew, H.2.2.later (Below.refl _ _).drew⟩

set_option maxHeartbeats 1000000 in
set_option maxRecDepth 100000 in
theorem rplace_any (c : Ce) (p : Pl) (d : D2) (w : World) (hr : CRow w c p) (hf : Fit c) :
    Calls Tryz.prog 92 #[ceV c p, dv d] w fun e w' => e = .returned (.int .i64 (numD c.elems d)) ∧ Below w.heap.size w w' := by
  obtain ⟨eo, ec, lo, lc, so, sc⟩ := p
  obtain ⟨d1, d2⟩ := d
  have H0 : Hid (PlB w w.heap.size c ⟨eo, ec, lo, lc, so, sc⟩ (d1, d2) ((w.alloc (.cells (ceL c ⟨eo, ec, lo, lc, so, sc⟩).toArray 30)).alloc (.cells #[.int .i64 d1, .int .i64 d2] 32))) := plB_new _ _ _ _ _ _
  obtain ⟨h, hh⟩ : ∃ h, w.heap.size = h := ⟨_, rfl⟩
  have HR : Hid (FRow w lo (flatL c.elems) ∧ w.heap.size = h) := ⟨hr.2.1, hh⟩
  have hl := hf.2.1
  obtain ⟨fin, hfin⟩ : ∃ fin, numD c.elems (d1, d2) = fin := ⟨_, rfl⟩
  rw [hh] at H0 ⊢
  rw [hfin]
  have HF : Hid (numD c.elems (d1, d2) = fin) := hfin
  clear hr hf hfin
  go_enter Tryz.func92, Tryz.ntmps92
  go_wp2
  clear hh
  go_loopg [5] c.elems.length (fun n iv wr => ∃ i : Nat, i + n = c.elems.length ∧ iv = .int .i64 i ∧ Hid (PlB w h c ⟨eo, ec, lo, lc, so, sc⟩ (d1, d2) wr) ∧ Hid (∀ (j : Nat) x, j < i → c.elems[j]? = some x → dotX x ≠ (d1, d2)))
  case atStart => exact ⟨0, by omega, rfl, H0.out, fun j x hj => by omega⟩
  case round =>
    clear H0
    obtain ⟨i, hin, rfl, HB, HA⟩ := hrel
    have t8 := HB.out.2.1.at 8 rfl
    by_cases hi : i < c.elems.length
    · obtain ⟨bk, off, rfl, hb, hc⟩ := HR.out.1 (by rw [flatL_len]; omega)
      obtain ⟨⟨xn, xs, xt, xv, xg⟩, hx⟩ : ∃ x, c.elems[i]? = some x := ⟨_, List.getElem?_eq_getElem hi⟩
      obtain ⟨g0, g1, _, _, _⟩ := flatL_at c.elems i hx
      have hb1 : bk < h := HR.out.2 ▸ hb
      have k0 := (HB.out.1.cell (p := ⟨bk, off + i * 5, none⟩) (by exact hb1)).trans (hc _ _ g0)
      have k1 := (HB.out.1.cell (p := ⟨bk, off + i * 5 + 1, none⟩) (by exact hb1)).trans (hc _ _ g1)
      simp only at k0 k1
      have t0 := HB.out.2.2.at 0 rfl
      have t1 := HB.out.2.2.at 1 rfl
      have HX : Hid (c.elems[i]? = some ⟨xn, xs, xt, xv, xg⟩) := hx
      clear hc hx g0 g1 hb
      by_cases hq : xn = d1 ∧ xs = d2
      · obtain ⟨rfl, rfl⟩ := hq
        have HE : Hid (fin = (i : Int)) := by
          show fin = _
          rw [← HF.out, numD_some (atD_at HX.out rfl HA.out)]
        go_wp2
        go_region
        all_goals go_wp2
        all_goals go_ret
        exact ⟨by rw [HE.out]; rfl, HB.out.1.drew⟩
      · have HQ : Hid (¬ (xn = d1 ∧ xs = d2)) := hq
        by_cases h1 : xn = d1
        · have h2 : (xs == d2) = false := by simpa using fun e => hq ⟨h1, e⟩
          have h1' : (xn == d1) = true := by simpa using h1
          clear hq h1
          go_wp2
          go_region
          all_goals go_wp2
          all_goals go_roundg (gk - 1)
          case measure => omega
          case rel =>
            refine ⟨i + 1, by omega, by go_num, plB_drew HB.out, fun j y hj hy => ?_⟩
            by_cases e : j = i
            · subst e
              have := HX.out.symm.trans hy
              simp only [Option.some.injEq] at this
              subst this
              simpa using HQ.out
            · exact HA.out j y (by omega) hy
        · have h1' : (xn == d1) = false := by simpa using h1
          clear hq h1
          go_wp2
          go_region
          all_goals go_wp2
          all_goals go_roundg (gk - 1)
          case measure => omega
          case rel =>
            refine ⟨i + 1, by omega, by go_num, plB_drew HB.out, fun j y hj hy => ?_⟩
            by_cases e : j = i
            · subst e
              have := HX.out.symm.trans hy
              simp only [Option.some.injEq] at this
              subst this
              simpa using HQ.out
            · exact HA.out j y (by omega) hy
    · have hd : decide ((i : Int) < (c.elems.length : Int)) = false := by simp; omega
      have HE : Hid (fin = -1) := by
        show fin = _
        rw [← HF.out, numD_none (atD_no fun j y hy => HA.out j y (by have := (List.getElem?_eq_some_iff.1 hy).1; omega) hy)]
      go_wp2
      go_ret
      exact ⟨by rw [HE.out]; rfl, HB.out.1⟩

/-- What a loop that makes elements keeps. -/
def Ll (w : World) (h : Nat) (c : Ce) (p : Pl) (l : List L5) (ao : Option Addr) (ca : Nat) (wr : World) : Prop :=
  Below h w wr ∧ Has wr h (ceL c p) ∧ wr.ownsRow (h + 1) 59 5 (.slice ao l.length ca) l.length (flatL l)
theorem ll_later {w wr w2 : World} {h : Nat} {c : Ce} {p : Pl} {l : List L5} {ao : Option Addr} {ca : Nat} (H : Ll w h c p l ao ca wr) (hb : Below wr.heap.size wr w2) : Ll w h c p l ao ca w2 :=
  ⟨H.1.trans (hb.mono (by have := H.2.1.1; omega)), H.2.1.later hb, own_later H.2.2 hb⟩
theorem ll_grown {w wr w2 : World} {h : Nat} {c : Ce} {p : Pl} {l : List L5} {x : L5} {ao bo : Option Addr} {ca cb : Nat} {o : Obj} (H : Ll w h c p l ao ca wr) (o2 : w2.ownsRow (h + 1) 59 5 (.slice bo (l.length + 1) cb) (l.length + 1) (flatL l ++ l5 x)) (b2 : Below (h + 1) (wr.alloc o) w2) : Ll w h c p (l ++ [x]) bo cb w2 := by
  have hs := H.2.1.1
  have hal : Below (h + 1) wr (wr.alloc o) := (Below.refl _ _).alloc (by omega) _
  refine ⟨H.1.trans ((hal.trans b2).mono (by omega)), H.2.1.under (by omega) (hal.trans b2), ?_⟩
  rw [flatL_append, List.length_append]
  simpa [flatL] using o2

set_option maxHeartbeats 2000000 in
set_option maxRecDepth 100000 in
theorem rlive_any (c : Ce) (p : Pl) (w : World) (hr : CRow w c p) (hf : Fit c) :
    Calls Tryz.prog 90 #[ceV c p] w fun e w' => ∃ ao ca, e = .returned (.slice ao (liveL c.elems).length ca) ∧ FOwn w.heap.size w' ao (flatL (liveL c.elems)) ∧ Below w.heap.size w w' := by
  obtain ⟨h, hh⟩ : ∃ h, w.heap.size = h := ⟨_, rfl⟩
  obtain ⟨eo, ec, lo, lc, so, sc⟩ := p
  have H0 : Hid (Ll w h c ⟨eo, ec, lo, lc, so, sc⟩ [] none 0 (w.alloc (.cells (ceL c ⟨eo, ec, lo, lc, so, sc⟩).toArray 30))) := ⟨hh ▸ (Below.refl _ _).alloc (Nat.le_refl _) _, hh ▸ has_new w (ceL c ⟨eo, ec, lo, lc, so, sc⟩) _, own_nil _ _ _ _⟩
  have HR : Hid (FRow w lo (flatL c.elems) ∧ w.heap.size = h) := ⟨hr.2.1, hh⟩
  have hl := hf.2.1
  obtain ⟨m, hm⟩ : ∃ m, liveL c.elems = m := ⟨_, rfl⟩
  rw [hh, hm]
  have HMV : Hid (liveL c.elems = m) := hm
  clear hr hf hm
  go_enter Tryz.func90, Tryz.ntmps90
  go_wp2
  clear hh
  go_loopg [3, 4] c.elems.length (fun n s3 iv wr => ∃ (i j : Nat) (ao : Option Addr) (ca : Nat), i + n = c.elems.length ∧ iv = .int .i64 i ∧ s3 = .slice ao j ca ∧ Hid (Ll w h c ⟨eo, ec, lo, lc, so, sc⟩ (liveL (c.elems.take i)) ao ca wr ∧ (liveL (c.elems.take i)).length = j) ∧ j ≤ i)
  case atStart => exact ⟨0, 0, none, 0, by omega, rfl, rfl, ⟨H0.out, rfl⟩, Nat.le_refl _⟩
  case round =>
    clear H0
    obtain ⟨i, j, ao, ca, hin, rfl, rfl, HD, hji⟩ := hrel
    have t8 := HD.out.1.2.1.at 8 rfl
    by_cases hi : i < c.elems.length
    · obtain ⟨bk, off, rfl, hb, hc⟩ := HR.out.1 (by rw [flatL_len]; omega)
      obtain ⟨⟨xn, xs, xt, xv, xg⟩, hx⟩ : ∃ x, c.elems[i]? = some x := ⟨_, List.getElem?_eq_getElem hi⟩
      obtain ⟨g0, g1, g2, g3, g4⟩ := flatL_at c.elems i hx
      have hb1 : bk < h := HR.out.2 ▸ hb
      have k0 := (HD.out.1.1.cell (p := ⟨bk, off + i * 5, none⟩) (by exact hb1)).trans (hc _ _ g0)
      have k1 := (HD.out.1.1.cell (p := ⟨bk, off + i * 5 + 1, none⟩) (by exact hb1)).trans (hc _ _ g1)
      have k2 := (HD.out.1.1.cell (p := ⟨bk, off + i * 5 + 2, none⟩) (by exact hb1)).trans (hc _ _ g2)
      have k3 := (HD.out.1.1.cell (p := ⟨bk, off + i * 5 + 3, none⟩) (by exact hb1)).trans (hc _ _ g3)
      have k4 := (HD.out.1.1.cell (p := ⟨bk, off + i * 5 + 4, none⟩) (by exact hb1)).trans (hc _ _ g4)
      have HV : Hid (liveL (c.elems.take (i + 1)) = liveL (c.elems.take i) ++ (if xg then [] else [⟨xn, xs, xt, xv, xg⟩]) ∧ (liveL (c.elems.take i)).length = j) := ⟨liveL_step hx, HD.out.2⟩
      clear hc hx g0 g1 g2 g3 g4 hb
      simp only at k0 k1 k2 k3 k4
      generalize liveL (c.elems.take i) = l at *
      cases xg with
      | true =>
        have HV2 : Hid (liveL (c.elems.take (i + 1)) = l) := by
          have := HV.out.1
          simp at this
          exact this
        go_wp2
        go_roundg (gk - 1)
        case measure => omega
        case rel => exact ⟨i + 1, j, ao, ca, by omega, by go_num, rfl, by rw [HV2.out]; exact ⟨HD.out.1, HV.out.2⟩, by omega⟩
      | false =>
        have HV2 : Hid (liveL (c.elems.take (i + 1)) = l ++ [⟨xn, xs, xt, xv, false⟩]) := by
          have := HV.out.1
          simp at this
          exact this
        obtain ⟨n2, hn2⟩ : ∃ n, wr.heap.size = n := ⟨_, rfl⟩
        have R2 : FRow (wr.alloc (.cells (l5 ⟨xn, xs, xt, xv, false⟩).toArray 59)) (some ⟨n2, 0, none⟩) (l5 ⟨xn, xs, xt, xv, false⟩) := frow_newAt hn2 (l5 ⟨xn, xs, xt, xv, false⟩) _
        have HO : Hid (wr.ownsRow (h + 1) 59 5 (.slice ao j ca) j (flatL l)) := by
          have := HD.out.1.2.2
          rw [HV.out.2] at this
          exact this
        have hsz : h + 1 ≤ wr.heap.size := by have := HD.out.1.2.1.1; omega
        go_wp2_with (first
          | (at_builtin
             refine wpList_onto rfl _ _ 27 rfl Tryz.underlying27 Tryz.infoElem rfl (by decide) (by decide) (B := h + 1) rfl rfl (own_later HO.out ((Below.refl _ _).alloc (Nat.le_refl _) _)) R2 rfl (fun u hu => oneL (l := [⟨xn, xs, xt, xv, false⟩]) (by simpa [flatL] using hu)) (by omega) (by simp; omega) ?_
             intro bo cb w2 o2 n2 b2
             have H2 : Hid (Ll w h c ⟨eo, ec, some ⟨bk, off, none⟩, lc, so, sc⟩ (l ++ [⟨xn, xs, xt, xv, false⟩]) bo cb w2) := ll_grown HD.out.1 (by rw [HV.out.2]; exact o2) b2
             clear o2 n2 b2))
        go_roundg (gk - 1)
        case measure => omega
        case rel => exact ⟨i + 1, j + 1, bo, cb, by omega, by go_num, rfl, by rw [HV2.out]; exact ⟨H2.out, by simp [HV.out.2]⟩, by omega⟩
    · have hd : decide ((i : Int) < (c.elems.length : Int)) = false := by simp; omega
      have e : i = c.elems.length := by omega
      have HE : Hid (Ll w h c ⟨eo, ec, lo, lc, so, sc⟩ m ao ca wr ∧ m.length = j) := by
        have := HD.out
        rw [e, List.take_length, HMV.out] at this
        exact this
      clear HD
      go_wp2
      go_ret
      rw [← HE.out.2]
      exact ⟨ao, ⟨ca, rfl⟩, (own_row HE.out.1.2.2).mono (by omega), HE.out.1.1⟩

set_option maxHeartbeats 400000 in
set_option maxRecDepth 100000 in
/-- ListValues refuses. -/
theorem rlvals_no (c : Ce) (p : Pl) (w : World) (hk : (c.kind != 3) = true) :
    Calls Tryz.prog 39 #[ceV c p] w fun e w' => e = .returned (.tuple #[.slice none 0 0, .int .i64 1000]) ∧ Below w.heap.size w w' := by
  go_enter Tryz.func39, Tryz.ntmps39
  go_wp2
  go_ret2
  exact ⟨rfl, (Below.refl _ _).alloc (Nat.le_refl _) _⟩

set_option maxHeartbeats 2000000 in
set_option maxRecDepth 100000 in
/-- ListValues takes it. -/
theorem rlvals_yes (c : Ce) (p : Pl) (w : World) (hr : CRow w c p) (hf : Fit c) (hk : (c.kind != 3) = false) :
    Calls Tryz.prog 39 #[ceV c p] w fun e w' => ∃ ao ca, e = .returned (.tuple #[.slice ao (valsX c.elems).length ca, .int .i64 0]) ∧ FOwn w.heap.size w' ao (flatT (valsX c.elems)) ∧ Below w.heap.size w w' := by
  obtain ⟨h, hh⟩ : ∃ h, w.heap.size = h := ⟨_, rfl⟩
  have H0 : Hid (Wl w h c p [] none 0 (w.alloc (.cells (ceL c p).toArray 30))) := ⟨hh ▸ (Below.refl _ _).alloc (Nat.le_refl _) _, hh ▸ has_new w (ceL c p) _, own_nil _ _ _ _⟩
  have HR : Hid (CRow w c p ∧ Fit c ∧ w.heap.size = h) := ⟨hr, hf, hh⟩
  obtain ⟨m, hm⟩ : ∃ m, liveL c.elems = m := ⟨_, rfl⟩
  have hl : m.length * 48 ≤ 140737488351232 := by have := hf.2.1; have := live_le c.elems; rw [hm] at this; omega
  have CL := rlive_any c p _ (hr.later ((Below.refl w.heap.size w).alloc (Nat.le_refl _) (.cells (ceL c p).toArray 30))) hf
  unfold valsX
  rw [hm] at CL ⊢
  rw [hh]
  have HML : Hid ((m.map (·.val)).length = m.length) := List.length_map ..
  clear hr hf hm
  go_enter Tryz.func39, Tryz.ntmps39
  go_wp2_with fail
  refine CL.mono ?_
  rintro e w1 ⟨lo, lc, rfl, o1, b1⟩
  have H1 : Hid (Wl w h c p [] none 0 w1 ∧ FRow w1 lo (flatL m) ∧ (∀ W, Below w1.heap.size w1 W → FRow W lo (flatL m))) := ⟨wl_later H0.out b1, o1.row, fun W hW => o1.row.later hW⟩
  have HO1 : Hid (FOwn (h + 1) w1 lo (flatL m)) := o1.mono (by simp [hh])
  clear b1 H0 CL o1 hh
  go_wp2
  obtain ⟨n1, hn1⟩ : ∃ n, w1.heap.size = n := ⟨_, rfl⟩
  have HN1 : Hid (w1.heap.size = n1 ∧ h + 1 ≤ n1) := ⟨hn1, by have := H1.out.1.2.1.1; omega⟩
  clear hn1
  go_loopg [5, 6] m.length (fun n s5 iv wr => ∃ (i : Nat) (ao : Option Addr) (ca : Nat), i + n = m.length ∧ iv = .int .i64 i ∧ s5 = .slice ao i ca ∧ Hid (Below n1 w1 wr ∧ wr.ownsRow n1 9 1 (.slice ao i ca) i (flatT ((m.map (·.val)).take i))))
  case atStart => exact ⟨0, none, 0, by omega, rfl, rfl, Below.refl _ _, own_nil _ _ _ _⟩
  case round =>
    obtain ⟨i, ao, ca, hin, rfl, rfl, HD⟩ := hrel
    by_cases hi : i < m.length
    · obtain ⟨bk, off, rfl, hb, hc⟩ := H1.out.2.1 (by rw [flatL_len]; omega)
      obtain ⟨⟨xn, xs, xt, xv, xg⟩, hx⟩ : ∃ x, m[i]? = some x := ⟨_, List.getElem?_eq_getElem hi⟩
      obtain ⟨_, _, _, g3, _⟩ := flatL_at m i hx
      have hb1 : bk < n1 := HN1.out.1 ▸ hb
      have k3 := (HD.out.1.cell (p := ⟨bk, off + i * 5 + 3, none⟩) (by exact hb1)).trans (hc _ _ g3)
      simp only at k3
      have HV : Hid (flatT ((m.map (·.val)).take (i + 1)) = flatT ((m.map (·.val)).take i) ++ [.string xv]) := by
        show _ = _
        rw [List.take_add_one, List.getElem?_map, hx, flatT_append]
        rfl
      obtain ⟨n2, hn2⟩ : ∃ n, wr.heap.size = n := ⟨_, rfl⟩
      have R2 : FRow (wr.alloc (.cells #[.string xv] 9)) (some ⟨n2, 0, none⟩) [.string xv] := frow_newAt hn2 [.string xv] _
      have hsz : n1 ≤ wr.heap.size := by have := HD.out.1.size; have := HN1.out.1; omega
      clear hc hx g3 hb
      go_wp2_with (first
        | (at_builtin
           refine wpList_onto rfl _ _ 65 rfl Tryz.underlying65 Tryz.infoText rfl (by decide) (by decide) (B := n1) rfl rfl (own_later HD.out.2 ((Below.refl _ _).alloc (Nat.le_refl _) _)) R2 rfl (fun u hu => by obtain rfl := List.mem_singleton.1 hu; rfl) (by omega) (by simp; omega) ?_
           intro bo cb w2 o2 n2 b2
           have H2 : Hid (Below n1 w1 w2 ∧ w2.ownsRow n1 9 1 (.slice bo (i + 1) cb) (i + 1) (flatT ((m.map (·.val)).take (i + 1)))) := ⟨HD.out.1.trans (((Below.refl _ _).alloc hsz _).trans b2), by rw [HV.out]; exact o2⟩
           clear o2 n2 b2))
      go_roundg (gk - 1)
      case measure => omega
      case rel => exact ⟨i + 1, bo, cb, by omega, by go_num, rfl, H2.out⟩
    · have hd : decide ((i : Int) < (m.length : Int)) = false := by simp; omega
      have e : i = m.length := by omega
      subst e
      have HE : Hid (FOwn h wr ao (flatT (m.map (·.val))) ∧ Below h w wr) := by
        have o := own_row HD.out.2
        rw [List.take_of_length_le (by rw [HML.out]; exact Nat.le_refl _)] at o
        exact ⟨o.mono (by have := HN1.out.2; omega), H1.out.1.1.trans (HD.out.1.mono (by have := HN1.out.2; omega))⟩
      clear HD
      go_wp2
      go_ret2
      rw [HML.out]
      exact ⟨ao, ca, rfl, HE.out.1, HE.out.2⟩

end Go.Proofs.YtgkddimijmnpcaaGreatDoor

/-
  slices.Insert at a row of elements of the call's own, by contract.
-/
namespace Go.Proofs.YtgkddimijmnpcaaGreatDoor
open Go.RowKit Go.Shelf
set_option linter.unusedVariables false
set_option linter.unusedSimpArgs false

set_option maxHeartbeats 1000000 in
set_option maxRecDepth 100000 in
/-- Behind all. -/
theorem insertL_end (C : Nat) (ao : Option Addr) (ca : Nat) (l : List L5) (x : L5) (vb : Nat) (w : World) (hs : w.ownsRow C 59 5 (.slice ao l.length ca) l.length (flatL l)) (hv : w.ownsRow C 59 5 (.slice (some ⟨vb, 0, none⟩) 1 1) 1 (l5 x)) (hC : C ≤ w.heap.size) (hl : (l.length + 1) * 48 ≤ 140737488355328) :
    Calls Tryz.prog 115 #[.slice ao l.length ca, .int .i64 (l.length : Nat), .slice (some ⟨vb, 0, none⟩) 1 1] w fun e w' => ∃ bo cb, e = .returned (.slice bo (l.length + 1) cb) ∧ FOwn C w' bo (flatL (l ++ [x])) ∧ w.grownBy w' (Value.slice ao l.length ca).ownBlock ∧ (∀ b, bo = some ⟨b, 0, none⟩ → (Value.slice ao l.length ca).ownBlock = some b ∨ w.heap.size ≤ b) := by
  have HS : Hid (w.ownsRow C 59 5 (.slice ao l.length ca) l.length (flatL l) ∧ FRow w (some ⟨vb, 0, none⟩) (l5 x)) := ⟨hs, (own_row hv).row⟩
  have hcap := (own_cap hs).1
  have hcap2 := (own_cap hs).2
  unfold maxLen at hcap2
  clear hs hv
  go_enter Tryz.func115, Tryz.ntmps115
  cases ao with
  | none =>
    go_wp2_with (at_builtin; refine wpList_ontoG rfl _ _ 27 rfl Tryz.underlying27 Tryz.infoElem rfl (by decide) (by decide) (B := C) rfl rfl HS.out.1 HS.out.2 rfl (fun u hu => oneL (l := [x]) (by simpa [flatL] using hu)) (by omega) hC ?_; intro bo cb w1 o1 _ _ b1 f1)
    all_goals go_ret
    all_goals exact ⟨bo, ⟨cb, rfl⟩, by rw [flatL_append]; simpa [flatL] using own_row o1, b1, f1⟩
  | some ad =>
    obtain ⟨ab, aoff, asp⟩ := ad
    go_wp2_with (at_builtin; refine wpList_ontoG rfl _ _ 27 rfl Tryz.underlying27 Tryz.infoElem rfl (by decide) (by decide) (B := C) rfl rfl HS.out.1 HS.out.2 rfl (fun u hu => oneL (l := [x]) (by simpa [flatL] using hu)) (by omega) hC ?_; intro bo cb w1 o1 _ _ b1 f1)
    all_goals go_ret
    all_goals exact ⟨bo, ⟨cb, rfl⟩, by rw [flatL_append]; simpa [flatL] using own_row o1, b1, f1⟩

set_option maxHeartbeats 400000 in
set_option maxRecDepth 100000 in
/-- There is room. -/
theorem insertL_room (C g i ca : Nat) (l : List L5) (x : L5) (vb : Nat) (w : World) (hs : w.ownsRow C 59 5 (.slice (some ⟨g, 0, none⟩) l.length ca) l.length (flatL l)) (hv : w.ownsRow C 59 5 (.slice (some ⟨vb, 0, none⟩) 1 1) 1 (l5 x)) (hne : vb ≠ g) (hC : C ≤ w.heap.size) (hl : (l.length + 1) * 48 ≤ 140737488355328) (hi : i < l.length) (hr : l.length + 1 ≤ ca) :
    Calls Tryz.prog 115 #[.slice (some ⟨g, 0, none⟩) l.length ca, .int .i64 (i : Nat), .slice (some ⟨vb, 0, none⟩) 1 1] w fun e w' => ∃ bo cb, e = .returned (.slice bo (l.length + 1) cb) ∧ FOwn C w' bo (flatL (putX l i x)) ∧ w.grownBy w' (some g) ∧ (∀ b, bo = some ⟨b, 0, none⟩ → some g = some b ∨ w.heap.size ≤ b) := by
  obtain ⟨cur, hh, hcs, htk, hCg, hgw, q1, hcm⟩ := own_block hs
  obtain ⟨cv, hvh, hvs, hvt, q2, hvw, q3, q4⟩ := own_block hv
  unfold maxLen at hcm
  obtain ⟨n, hn⟩ : ∃ n, l.length = n := ⟨_, rfl⟩
  have hF : ∀ k u, (flatL l)[k]? = some u → w.cell? ⟨g, k, none⟩ = some u := fun k u hu => by
    rw [block_cell hh, ← htk, List.getElem?_take] at *
    split at hu
    · simpa using hu
    · simp at hu
  have hV : ∀ k u, (l5 x)[k]? = some u → w.cell? ⟨vb, k, none⟩ = some u := fun k u hu => by
    rw [block_cell hvh, ← hvt, List.getElem?_take] at *
    split at hu
    · simpa using hu
    · simp at hu
  have hS : ∀ k, k < (flatL l).length + (l5 x).length → (w.cell? ⟨g, k, none⟩).isSome = true := fun k hk => by
    rw [flatL_len] at hk
    simp only [List.length_cons, List.length_nil] at hk
    rw [block_cell hh, Array.getElem?_eq_getElem (by omega)]; rfl
  have hz : ∀ k, w.frozen? ⟨g, k, none⟩ = false := block_free hh
  have H : Hid (FOwn C ((w.drew.setCells g (i * 5 + (l5 x).length) ((flatL l).drop (i * 5))).setCells g (i * 5) (l5 x)) (some ⟨g, 0, none⟩) (flatL (putX l i x))) := by
    rw [putX_flat]
    exact fown_shift (W := w.drew) hCg hgw (by rw [flatL_len]; omega) hF hS hz
  have hov : ∀ lb cb, (callFunc 149 #[.slice (some ⟨vb, 0, none⟩) 1 1, .slice (some ⟨g, (i + 1) * 5, none⟩) lb cb]).run Tryz.prog w = .ok (.value (.bool false)) w := fun lb cb => by
    rw [run_callFunc_extern Tryz.func149 (by kernel_rfl) (by kernel_rfl) (by kernel_rfl) (e := Extern.SlicesOverlaps.overlaps #[27, 27] #[4]) (by kernel_rfl),
      Lib.run_overlaps_apart w 27 4 59 Tryz.underlying27 5 Tryz.sizeOf59 ⟨vb, 0, none⟩ ⟨g, (i + 1) * 5, none⟩ 1 1 lb cb hne _ _ _ _ (block_shape hvh) (block_shape hh) (by omega) (block_free hvh 0) (block_free hvh _)]
    rfl
  have HW : Hid ((∀ k u, (flatL l)[k]? = some u → w.cell? ⟨g, k, none⟩ = some u) ∧ (∀ k u, (l5 x)[k]? = some u → w.cell? ⟨vb, k, none⟩ = some u) ∧ (∀ k, k < (flatL l).length + (l5 x).length → (w.cell? ⟨g, k, none⟩).isSome = true) ∧ (∀ k, w.frozen? ⟨g, k, none⟩ = false)) := ⟨hF, hV, hS, hz⟩
  have HC : Hid (C ≤ g) := hCg
  have HN : Hid (l.length = n) := hn
  rw [hn] at hr hi hl ⊢
  clear hF hV hS hz hh hcs htk hCg hgw hvh hvs hvt hvw hs hv hC hn q1 q2 q3 q4
  have hz2 : ((i : Int) == (n : Int)) = false := by simp; omega
  have hgt : decide ((ca : Int) < (n : Int) + 1) = false := by simp; omega
  go_enter Tryz.func115, Tryz.ntmps115
  have hb2 : ¬ (ca = i + 1) := by omega
  have hb4 : ¬ (ca = i) := by omega
  have htn : ((i : Int) + 1).toNat = i + 1 := by omega
  have hin : i ≤ n := by omega
  have hb3 : (i : Int) ≤ (n : Int) + 1 := by omega
  have hw1 : IntKind.i64.wrap ((i : Int) + 1) = (i : Int) + 1 := by rw [IntKind.wrap_i64]; omega
  have hb1 : (0 : Int) ≤ (i : Int) + 1 := by omega
  have hmn : Nat.min (n + 1 - i) (n - i) * 5 = ((flatL l).drop (i * 5)).length := by
    rw [List.length_drop, flatL_len, HN.out]
    simp only [Nat.min_def]; split <;> omega
  have hmn2 : Nat.min 1 (n + 1 - i) * 5 = (l5 x).length := by
    simp only [Nat.min_def, List.length_cons, List.length_nil]; split <;> omega
  obtain ⟨W1, hW1⟩ : ∃ W1, W1 = w.drew.setCells g (i * 5 + (l5 x).length) ((flatL l).drop (i * 5)) := ⟨_, rfl⟩
  have ei : (i + 1) * 5 = i * 5 + (l5 x).length := by simp only [List.length_cons, List.length_nil]; omega
  have hdl : ((flatL l).drop (i * 5)).length = (n - i) * 5 := by rw [List.length_drop, flatL_len, HN.out]; omega
  have hfl : (flatL l).length = n * 5 := by rw [flatL_len, HN.out]
  have hcp1 : ∀ ty dc sc, (Builtin.copy_ #[27, 27] ty #[.slice (some ⟨g, (i + 1) * 5, none⟩) (n - i) dc, .slice (some ⟨g, i * 5, none⟩) (n + 1 - i) sc]).run Tryz.prog w.drew = .ok (goInt (Nat.min (n + 1 - i) (n - i))) W1 := fun ty dc sc => by
    rw [hW1, ← ei]
    refine run_copy_k w.drew _ _ ty 59 5 g ((i + 1) * 5) _ dc ⟨g, i * 5, none⟩ _ sc _ Tryz.underlying27 Tryz.sizeElem hmn (fun j v hj => ?_) (fun j hj => ?_) (fun j hj => HW.out.2.2.2 _) (fun v hv => oneL (List.mem_of_mem_drop hv))
    · rw [add_off]
      exact HW.out.1 _ v (by rwa [List.getElem?_drop] at hj)
    · exact HW.out.2.2.1 _ (by rw [hfl]; simp only [List.length_cons, List.length_nil]; omega)
  have hcp2 : ∀ ty dc, (Builtin.copy_ #[27, 27] ty #[.slice (some ⟨g, i * 5, none⟩) (n + 1 - i) dc, .slice (some ⟨vb, 0, none⟩) 1 1]).run Tryz.prog W1 = .ok (goInt (Nat.min 1 (n + 1 - i))) (W1.setCells g (i * 5) (l5 x)) := fun ty dc => by
    refine run_copy_k W1 _ _ ty 59 5 g (i * 5) _ dc ⟨vb, 0, none⟩ 1 1 _ Tryz.underlying27 Tryz.sizeElem hmn2 (fun j v hj => ?_) (fun j hj => ?_) (fun j hj => ?_) (fun v hv => oneL (l := [x]) (by simpa [flatL] using hv))
    · rw [add_off, Nat.zero_add, hW1, World.cell?_setCells_out g _ _ _ _ (fun h _ => absurd h hne)]
      exact HW.out.2.1 j v hj
    · rw [hW1]
      exact some_setCells g _ _ _ _ (HW.out.2.2.1 _ (by rw [hfl]; simp only [List.length_cons, List.length_nil] at hj ⊢; omega))
    · rw [hW1, World.frozen?_setCells]
      exact HW.out.2.2.2 _
  have HE : Hid (FOwn C (W1.setCells g (i * 5) (l5 x)) (some ⟨g, 0, none⟩) (flatL (putX l i x)) ∧ w.grownBy (W1.setCells g (i * 5) (l5 x)) (some g)) := by
    refine ⟨?_, ?_⟩
    · rw [hW1]; exact H.out
    · rw [hW1]; exact gb_setCells _ _ (gb_setCells _ _ (gb_drew (gb_refl _ _)))
  clear hmn hmn2 hW1 ei hdl hfl H HW
  go_upto_region 15 with (simp only [hov])
  go_region_law (refine step_copy_run rfl _ _ 27 27 rfl _ _ (by simp [Act.eval, Act.put]) (by simp [Act.eval, Act.put]) (hcp1 _ _ _) ?_)
  go_wp2_with (at_builtin; refine wpList_copy_run _ rfl _ _ 27 27 rfl _ _ rfl rfl (hcp2 _ _) ?_)
  go_ret
  exact ⟨_, ca, rfl, HE.out.1, HE.out.2, fun b hb => Or.inl (by simpa using hb)⟩

set_option maxHeartbeats 400000 in
set_option maxRecDepth 100000 in
/-- There is no room. -/
theorem insertL_grow (C g i ca : Nat) (l : List L5) (x : L5) (vb : Nat) (w : World) (hs : w.ownsRow C 59 5 (.slice (some ⟨g, 0, none⟩) l.length ca) l.length (flatL l)) (hv : w.ownsRow C 59 5 (.slice (some ⟨vb, 0, none⟩) 1 1) 1 (l5 x)) (hC : C ≤ w.heap.size) (hl : (l.length + 1) * 48 ≤ 140737488355328) (hi : i < l.length) (hr : ca < l.length + 1) :
    Calls Tryz.prog 115 #[.slice (some ⟨g, 0, none⟩) l.length ca, .int .i64 (i : Nat), .slice (some ⟨vb, 0, none⟩) 1 1] w fun e w' => ∃ bo cb, e = .returned (.slice bo (l.length + 1) cb) ∧ FOwn C w' bo (flatL (putX l i x)) ∧ w.grownBy w' (some g) ∧ (∀ b, bo = some ⟨b, 0, none⟩ → some g = some b ∨ w.heap.size ≤ b) := by
  obtain ⟨cur, hh, hcs, htk, hCg, hgw, q1, hcm⟩ := own_block hs
  obtain ⟨cv, hvh, hvs, hvt, q2, hvw, q3, q4⟩ := own_block hv
  unfold maxLen at hcm
  obtain ⟨n, hn⟩ : ∃ n, l.length = n := ⟨_, rfl⟩
  have hF : ∀ k u, (flatL l)[k]? = some u → w.cell? ⟨g, k, none⟩ = some u := fun k u hu => by
    rw [block_cell hh, ← htk, List.getElem?_take] at *
    split at hu
    · simpa using hu
    · simp at hu
  have hV : ∀ k u, (l5 x)[k]? = some u → w.cell? ⟨vb, k, none⟩ = some u := fun k u hu => by
    rw [block_cell hvh, ← hvt, List.getElem?_take] at *
    split at hu
    · simpa using hu
    · simp at hu
  have HN : Hid (l.length = n) := hn
  have hfl : (flatL l).length = n * 5 := by rw [flatL_len, hn]
  rw [hn] at hr hi hl q1 ⊢
  obtain ⟨i0, hi0, hz0, hz1, hz2⟩ := info_parts Tryz.infoElem
  obtain ⟨N, hN⟩ : ∃ N, w.heap.size = N := ⟨_, rfl⟩
  have HZ : Hid (w.heap.size = N) := hN
  obtain ⟨G, hG⟩ : ∃ G, grownCap w (n + 1) ca 59 = G := ⟨_, rfl⟩
  obtain ⟨z, hz⟩ : ∃ z, z = (.agg #[.int .i64 0, .int .i64 0, .int .i64 0, .string ByteArray.empty, .bool false] : Value) := ⟨_, rfl⟩
  have hzc : z.cells.size = 5 := by rw [hz]; rfl
  obtain ⟨ROW, hROW⟩ : ∃ ROW : Array Value, ROW = ((flatL l).take (i * 5)).toArray ++ Builtin.zeroCells z.cells (n + 1 - i) ++ Builtin.zeroCells z.cells (G - (n + 1)) := ⟨_, rfl⟩
  have hold : (Builtin.firstCells i0.size i (.slice (some ⟨g, 0, none⟩) i ca)).run Tryz.prog w.drew = .ok ((flatL l).take (i * 5)).toArray w.drew := by
    rw [hz1]
    refine run_firstCells_some w.drew 5 i ⟨g, 0, none⟩ i ca ((flatL l).take (i * 5)) (by rw [List.length_take, hfl]; omega) (fun j v hj => ?_)
    rw [add_off, Nat.zero_add]
    rw [List.getElem?_take] at hj
    split at hj
    · exact hF j v hj
    · cases hj
  have hik : i + (n + 1 - i) = n + 1 := by omega
  have hkk : (n : Int) + 1 - (i : Int) = ((n + 1 - i : Nat) : Int) := by omega
  obtain ⟨W1, hW1⟩ : ∃ W1, W1 = w.drew.alloc (.cells ROW 59) := ⟨_, rfl⟩
  have hrz : ∀ ty, (Builtin.append_ #[27, 3] ty #[.slice (some ⟨g, 0, none⟩) i ca, .int .i64 ((n : Int) + 1 - (i : Int))]).run Tryz.prog w = .ok (.slice (some ⟨N, 0, none⟩) (n + 1) G) W1 := fun ty => by
    have h := Lib.run_append_grow_zeros w 27 3 ty 59 i0 _ .i64 .i64 Tryz.underlying27 Tryz.underlying3 hi0 hz0 (some ⟨g, 0, none⟩) i ca ((flatL l).take (i * 5)) hold (n + 1 - i) (by omega) (by omega) (by omega) (by omega) (by rw [hz2]; omega) (by rw [hz2, hik]; exact growslice_fits hr hl)
    rw [hik, hG, hN, ← hz, ← hROW, ← hW1] at h
    rw [hkk]
    exact h
  have hRl : (n + 1) * 5 ≤ ROW.size := by
    rw [hROW]
    simp only [Array.size_append, List.size_toArray, List.length_take, Builtin.zeroCells, Array.size_map, Array.size_range, hzc, hfl]
    omega
  have hR1 : ∀ k u, k < i * 5 → (flatL l)[k]? = some u → W1.cell? ⟨N, k, none⟩ = some u := fun k u hk hu => by
    rw [hW1, World.cell?_alloc_at (w := w.drew) _ _ _ _ hN.symm, hROW, Array.append_assoc, Array.getElem?_append_left (by simp [hfl]; omega)]
    simp [List.getElem?_take, hk, hu]
  have hR2 : ∀ k, k < (n + 1) * 5 → (W1.cell? ⟨N, k, none⟩).isSome = true := fun k hk => by
    rw [hW1, World.cell?_alloc_at (w := w.drew) _ _ _ _ hN.symm, Array.getElem?_eq_getElem (by omega)]; rfl
  have hR3 : ∀ k, W1.frozen? ⟨N, k, none⟩ = false := fun k => by
    rw [hW1]
    exact World.frozen?_alloc_at (w := w.drew) _ _ _ _ hN.symm
  have hOld : ∀ b k u, b < N → w.cell? ⟨b, k, none⟩ = some u → W1.cell? ⟨b, k, none⟩ = some u := fun b k u hb hu => by
    rw [hW1, World.cell?_alloc_past (w := w.drew) _ _ _ (by show b < w.heap.size; omega)]; exact hu
  have hBW : w.grownBy W1 (some g) := by rw [hW1]; exact gb_trans (gb_drew (gb_refl _ _)) (World.grownBy_alloc _ _ _)
  have hSW : W1.heap.size = N + 1 := by rw [hW1]; show (w.heap.push _).size = _; simp [hN]
  have hGn : n + 1 ≤ G := by rw [← hG]; exact grownCap_ge w _ _ _
  have hG63 : G ≤ 9223372036854775807 := by
    have := grownCap_le_maxLen w (n + 1) ca 59 (by unfold maxLen; omega)
    rw [hG] at this
    unfold maxLen at this
    omega
  have hmn2 : Nat.min 1 (n + 1 - i) * 5 = (l5 x).length := by
    simp only [Nat.min_def, List.length_cons, List.length_nil]; split <;> omega
  have hmn : Nat.min (n - i) (n - i) * 5 = ((flatL l).drop (i * 5)).length := by
    rw [List.length_drop, hfl]
    simp only [Nat.min_def]; split <;> omega
  have hdl : ((flatL l).drop (i * 5)).length = (n - i) * 5 := by rw [List.length_drop, hfl]; omega
  have ei : (i + 1) * 5 = i * 5 + (l5 x).length := by simp only [List.length_cons, List.length_nil]; omega
  have hgN : g < N := by omega
  have hvN : vb < N := by omega
  have hC2 : C ≤ N := by omega
  obtain ⟨W2, hW2⟩ : ∃ W2, W2 = W1.setCells N (i * 5) (l5 x) := ⟨_, rfl⟩
  have hcp1 : ∀ ty dc, (Builtin.copy_ #[27, 27] ty #[.slice (some ⟨N, i * 5, none⟩) (n + 1 - i) dc, .slice (some ⟨vb, 0, none⟩) 1 1]).run Tryz.prog W1 = .ok (goInt (Nat.min 1 (n + 1 - i))) W2 := fun ty dc => by
    rw [hW2]
    refine run_copy_k W1 _ _ ty 59 5 N (i * 5) _ dc ⟨vb, 0, none⟩ 1 1 _ Tryz.underlying27 Tryz.sizeElem hmn2 (fun j v hj => ?_) (fun j hj => ?_) (fun j hj => hR3 _) (fun v hv => oneL (l := [x]) (by simpa [flatL] using hv))
    · rw [add_off, Nat.zero_add]
      exact hOld vb j v hvN (hV j v hj)
    · exact hR2 _ (by simp only [List.length_cons, List.length_nil] at hj; omega)
  obtain ⟨W3, hW3⟩ : ∃ W3, W3 = W2.drew.setCells N (i * 5 + (l5 x).length) ((flatL l).drop (i * 5)) := ⟨_, rfl⟩
  have hcp2 : ∀ ty dc sc, (Builtin.copy_ #[27, 27] ty #[.slice (some ⟨N, (i + 1) * 5, none⟩) (n - i) dc, .slice (some ⟨g, i * 5, none⟩) (n - i) sc]).run Tryz.prog W2.drew = .ok (goInt (Nat.min (n - i) (n - i))) W3 := fun ty dc sc => by
    rw [hW3, ← ei]
    refine run_copy_k W2.drew _ _ ty 59 5 N ((i + 1) * 5) _ dc ⟨g, i * 5, none⟩ _ sc _ Tryz.underlying27 Tryz.sizeElem hmn (fun j v hj => ?_) (fun j hj => ?_) (fun j hj => ?_) (fun v hv => oneL (List.mem_of_mem_drop hv))
    · rw [add_off]
      show W2.cell? _ = _
      rw [hW2, World.cell?_setCells_out N _ _ _ _ (fun h _ => absurd h (by show g ≠ N; omega))]
      exact hOld g _ v hgN (hF _ v (by rwa [List.getElem?_drop] at hj))
    · show (W2.cell? _).isSome = true
      rw [hW2]
      exact some_setCells N _ _ _ _ (hR2 _ (by omega))
    · show W2.frozen? _ = false
      rw [hW2, World.frozen?_setCells]
      exact hR3 _
  have HE : Hid (FOwn C W3 (some ⟨N, 0, none⟩) (flatL (putX l i x)) ∧ w.grownBy W3 (some g)) := by
    refine ⟨?_, ?_⟩
    · rw [hW3, hW2, putX_flat]
      exact fown_shift2 hC2 (by omega) (by rw [hfl]; omega) hR1 (fun k hk => hR2 k (by rw [hfl] at hk; simp only [List.length_cons, List.length_nil] at hk; omega)) hR3
    · rw [hW3, hW2]
      exact gb_newCells (by omega) _ _ (gb_drew (gb_newCells (by omega) _ _ hBW))
  have hzz2 : ((i : Int) == (n : Int)) = false := by simp; omega
  have hgt : decide ((ca : Int) < (n : Int) + 1) = true := by simp; omega
  have hb2 : ¬ (G = i + 1) := by omega
  have hb3 : ¬ (G = i) := by omega
  have hb4 : ¬ (ca = i) := by omega
  have htn : ((i : Int) + 1).toNat = i + 1 := by omega
  have hin : i ≤ n := by omega
  have hw1 : IntKind.i64.wrap ((i : Int) + 1) = (i : Int) + 1 := by rw [IntKind.wrap_i64]; omega
  have hb1 : (0 : Int) ≤ (i : Int) + 1 := by omega
  have hb5 : (i : Int) ≤ (n : Int) + 1 := by omega
  clear hmn hmn2 hW1 hW2 hW3 ei hdl hfl hF hV hR1 hR2 hR3 hOld hBW hSW hROW hRl hz hzc hold hG hN hi0 hz0 hz1 hz2 hkk hik hh hvh hs hv hcs htk hvs hvt hn hgw hvw q2 q3 q4 hCg hC hC2 hgN hvN
  go_enter Tryz.func115, Tryz.ntmps115
  go_upto_region 11 with (first
    | (at_builtin; refine Lib.wpList_append_run _ rfl _ _ _ _ rfl _ _ rfl rfl _ _ (hrz _) ?_)
    | (at_builtin; refine wpList_copy_run _ rfl _ _ 27 27 rfl _ _ rfl rfl (hcp1 _ _) ?_))
  go_region_law (refine step_copy_run rfl _ _ 27 27 rfl _ _ (by simp [Act.eval, Act.put]) (by simp [Act.eval, Act.put]) (hcp2 _ _ _) ?_)
  go_wp2
  go_ret
  exact ⟨_, G, rfl, HE.out.1, HE.out.2, fun b hb => Or.inr (by simp only [Option.some.injEq, Addr.mk.injEq, and_true] at hb; rw [HZ.out, hb]; exact Nat.le_refl _)⟩

/-- slices.Insert, whatever the room. -/
theorem insertL_any (C i : Nat) (ao : Option Addr) (ca : Nat) (l : List L5) (x : L5) (vb : Nat) (w : World) (hs : w.ownsRow C 59 5 (.slice ao l.length ca) l.length (flatL l)) (hv : w.ownsRow C 59 5 (.slice (some ⟨vb, 0, none⟩) 1 1) 1 (l5 x)) (hne : ao ≠ some ⟨vb, 0, none⟩) (hC : C ≤ w.heap.size) (hl : (l.length + 1) * 48 ≤ 140737488355328) (hi : i ≤ l.length) :
    Calls Tryz.prog 115 #[.slice ao l.length ca, .int .i64 (i : Nat), .slice (some ⟨vb, 0, none⟩) 1 1] w fun e w' => ∃ bo cb, e = .returned (.slice bo (l.length + 1) cb) ∧ FOwn C w' bo (flatL (putX l i x)) ∧ w.grownBy w' (Value.slice ao l.length ca).ownBlock ∧ (∀ b, bo = some ⟨b, 0, none⟩ → (Value.slice ao l.length ca).ownBlock = some b ∨ w.heap.size ≤ b) := by
  by_cases h1 : i = l.length
  · subst h1
    have e : putX l l.length x = l ++ [x] := by simp [putX]
    rw [e]
    exact insertL_end C ao ca l x vb w hs hv hC hl
  · have hi2 : i < l.length := by omega
    rcases hs.2 with ⟨_, h2⟩ | ⟨g, cap, cur, h2, _⟩
    · omega
    · simp only [Value.slice.injEq] at h2
      obtain ⟨rfl, _, rfl⟩ := h2
      by_cases h3 : l.length + 1 ≤ ca
      · exact insertL_room C g i ca l x vb w hs hv (fun e => hne (by rw [e])) hC hl hi2 h3
      · exact insertL_grow C g i ca l x vb w hs hv hC hl hi2 (by omega)

end Go.Proofs.YtgkddimijmnpcaaGreatDoor

/-
  Plain mathematics of whole numbers in floats of 64 bits: a whole number of at most 53 binary digits is exact there, and so are sums that stay so. No program in it.
-/
namespace Go.Proofs.YtgkddimijmnpcaaGreatDoor.Flo
set_option linter.unusedVariables false
open Ieee

/-- The leading 53 digits of n. -/
def kept (n : Nat) : Nat := n * 2 ^ 52 / 2 ^ n.log2

theorem log2_le {n : Nat} (h : n ≤ 2 ^ 53) (h0 : n ≠ 0) : n.log2 ≤ 53 := by
  have h1 : n.log2 < 54 := (Nat.log2_lt h0).2 (by omega)
  omega

theorem pow_split {a b : Nat} (h : a ≤ b) : 2 ^ b = 2 ^ a * 2 ^ (b - a) := by
  rw [← Nat.pow_add]; congr 1; omega

theorem kept_small {n : Nat} (h0 : n ≠ 0) (h : n.log2 ≤ 52) : kept n = n * 2 ^ (52 - n.log2) := by
  unfold kept
  rw [pow_split h, Nat.mul_left_comm]
  exact Nat.mul_div_cancel_left _ (Nat.two_pow_pos _)

theorem log2_53 {n : Nat} (h : n ≤ 2 ^ 53) (h0 : n ≠ 0) (h1 : ¬ n.log2 ≤ 52) : n = 2 ^ 53 := by
  have h2 := log2_le h h0
  have h3 : n.log2 = 53 := by omega
  have h4 := Nat.log2_self_le h0
  rw [h3] at h4
  omega

theorem kept_top : kept (2 ^ 53) = 2 ^ 52 := by
  have : (2 ^ 53 : Nat).log2 = 53 := by decide +kernel
  unfold kept; rw [this]

theorem kept_bounds {n : Nat} (h : n ≤ 2 ^ 53) (h0 : n ≠ 0) : 2 ^ 52 ≤ kept n ∧ kept n < 2 ^ 53 := by
  by_cases h1 : n.log2 ≤ 52
  · rw [kept_small h0 h1]
    have a := Nat.log2_self_le h0
    have b := Nat.lt_log2_self (n := n)
    constructor
    · rw [pow_split h1]; exact Nat.mul_le_mul_right _ a
    · have : (2 : Nat) ^ 53 = 2 ^ (n.log2 + 1) * 2 ^ (52 - n.log2) := by rw [← Nat.pow_add]; congr 1; omega
      rw [this]; exact Nat.mul_lt_mul_of_pos_right b (Nat.two_pow_pos _)
  · rw [log2_53 h h0 h1, kept_top]; decide

theorem double_read (s : Bool) (l k : Nat) (hl : l ≤ 53) (hk : 4503599627370496 ≤ k ∧ k < 9007199254740992) :
    double.read (double.word s ((l + 1022) * 4503599627370496 + k)) = .number s k ((l : Int) - 52) := by
  obtain ⟨hk1, hk2⟩ := hk
  have hsw : double.signWeight = 9223372036854775808 := by decide +kernel
  have hb : double.binade = 4503599627370496 := by decide +kernel
  have hi : double.infRung = 9218868437227405312 := by decide +kernel
  have hp : double.leastPlace = -1074 := by decide +kernel
  generalize hr : (l + 1022) * 4503599627370496 + k = r
  have hneg : (double.word s r / double.signWeight % 2 == 1) = s := by
    unfold Format.word
    rw [hsw]
    cases s
    · have : r / 9223372036854775808 % 2 = 0 := by omega
      simp [this]
    · have : (9223372036854775808 + r) / 9223372036854775808 % 2 = 1 := by omega
      simp only [if_pos, this]; rfl
  have hrung : double.word s r % double.signWeight = r := by
    unfold Format.word
    rw [hsw]
    cases s <;> simp <;> omega
  unfold Format.read
  simp only [hneg, hrung, hb, hi, hp]
  clear hneg hrung hsw hb hi hp
  have e1 : ¬ r < 4503599627370496 := by omega
  have e2 : r < 9218868437227405312 := by omega
  have e0 : r % 4503599627370496 + 4503599627370496 = k := by
    have := Nat.mod_eq_of_lt (show k - 4503599627370496 < 4503599627370496 by omega)
    have e : r = (k - 4503599627370496) + 4503599627370496 * (l + 1023) := by omega
    rw [e, Nat.add_mul_mod_self_left, this]
    omega
  have e3 : 4503599627370496 + r % 4503599627370496 = k := by rw [Nat.add_comm]; exact e0
  have e4 : (-1074 : Int) + ((r / 4503599627370496 - 1 : Nat) : Int) = (l : Int) - 52 := by omega
  rw [if_neg e1, if_pos e2, e3, e4]

theorem double_read_zero (s : Bool) : double.read (double.word s 0) = .number s 0 (-1074) := by
  cases s <;> decide +kernel

/-- Cut where nothing is lost. -/
theorem cut_exact (way : Toward) (neg : Bool) (q d : Nat) (h0 : q ≠ 0) : way.cut neg (q * 2 ^ d) d = q := by
  have hpos : 0 < 2 ^ d := Nat.two_pow_pos _
  have hl : d ≤ (q * 2 ^ d).log2 + 2 := by
    have h1 : q * 2 ^ d ≠ 0 := Nat.mul_ne_zero h0 (by omega)
    have h2 : d ≤ (q * 2 ^ d).log2 := (Nat.le_log2 h1).2 (Nat.le_mul_of_pos_left _ (by omega))
    omega
  have hm : min d ((q * 2 ^ d).log2 + 2) = d := by omega
  have hq : q * 2 ^ d / 2 ^ d = q := Nat.mul_div_cancel _ hpos
  have hr : q * 2 ^ d % 2 ^ d = 0 := Nat.mul_mod_left _ _
  unfold Toward.cut
  simp only [hm, Nat.one_shiftLeft, hq, hr]
  have e : (2 ^ d == 2 * 0) = false := by simp
  cases way <;> simp [e]

theorem log2_mul_pow {n : Nat} (h0 : n ≠ 0) (k : Nat) : (n * 2 ^ k).log2 = n.log2 + k := by
  have h1 : n * 2 ^ k ≠ 0 := Nat.mul_ne_zero h0 (by have := Nat.two_pow_pos k; omega)
  have a : n.log2 + k ≤ (n * 2 ^ k).log2 := (Nat.le_log2 h1).2 (by
    rw [Nat.pow_add]; exact Nat.mul_le_mul_right _ (Nat.log2_self_le h0))
  have b : (n * 2 ^ k).log2 < n.log2 + k + 1 := (Nat.log2_lt h1).2 (by
    have : 2 ^ (n.log2 + k + 1) = 2 ^ (n.log2 + 1) * 2 ^ k := by rw [← Nat.pow_add]; congr 1; omega
    rw [this]; exact Nat.mul_lt_mul_of_pos_right Nat.lt_log2_self (Nat.two_pow_pos _))
  omega

/-- The word of 'n', written as 'n * 2 ^ k' at place '-k'. -/
theorem nearest_whole (s : Bool) (n k : Nat) (h : n ≤ 9007199254740992) (h0 : n ≠ 0) (hk : k ≤ 1074) :
    double.nearest s (n * 2 ^ k) (-(k : Int)) = double.word s ((n.log2 + 1022) * 4503599627370496 + kept n) := by
  have hb : double.binade = 4503599627370496 := by decide +kernel
  have hi : double.infRung = 9218868437227405312 := by decide +kernel
  have hp : double.leastPlace = -1074 := by decide +kernel
  have hf : double.fractionBits = 52 := rfl
  have h1 : n * 2 ^ k ≠ 0 := Nat.mul_ne_zero h0 (by have := Nat.two_pow_pos k; omega)
  have hL := log2_le (n := n) (by omega) h0
  obtain ⟨hk1, hk2⟩ := kept_bounds (n := n) (by omega) h0
  have hlast : max (-(k : Int) + ((n * 2 ^ k).log2 : Nat) - (double.fractionBits : Nat)) double.leastPlace = (n.log2 : Int) - 52 := by
    rw [log2_mul_pow h0, hf, hp]; omega
  unfold Format.nearest
  rw [if_neg h1]
  simp only [hlast]
  have hkept : Toward.even.cut s ((n * 2 ^ k) <<< (-(k : Int) - ((n.log2 : Int) - 52)).toNat) (((n.log2 : Int) - 52) - -(k : Int)).toNat = kept n := by
    by_cases hs : n.log2 ≤ 52
    · have e : (n * 2 ^ k) <<< (-(k : Int) - ((n.log2 : Int) - 52)).toNat = kept n * 2 ^ (((n.log2 : Int) - 52) - -(k : Int)).toNat := by
        rw [kept_small h0 hs, Nat.shiftLeft_eq, Nat.mul_assoc, Nat.mul_assoc, ← Nat.pow_add, ← Nat.pow_add]
        congr 2; omega
      rw [e]; exact cut_exact _ _ _ _ (by omega)
    · have hn := log2_53 (n := n) (by omega) h0 hs
      have hl53 : n.log2 = 53 := by omega
      have e : (n * 2 ^ k) <<< (-(k : Int) - ((n.log2 : Int) - 52)).toNat = kept n * 2 ^ (((n.log2 : Int) - 52) - -(k : Int)).toNat := by
        have e1 : (-(k : Int) - ((n.log2 : Int) - 52)).toNat = 0 := by omega
        have e2 : (((n.log2 : Int) - 52) - -(k : Int)).toNat = k + 1 := by omega
        rw [e1, e2, Nat.shiftLeft_zero]
        have e3 : kept n = 2 ^ 52 := by rw [hn]; exact kept_top
        rw [e3, hn, ← Nat.pow_add, ← Nat.pow_add]; congr 1; omega
      rw [e]; exact cut_exact _ _ _ _ (by omega)
  rw [hkept, hb, hi, hp]
  have e5 : ((n.log2 : Int) - 52 - -1074).toNat = n.log2 + 1022 := by omega
  have e6 : min ((n.log2 + 1022) * 4503599627370496 + kept n) 9218868437227405312 = (n.log2 + 1022) * 4503599627370496 + kept n := by
    clear hkept hlast hb hi hp hf h1
    omega
  rw [e5, e6]

/-- The word w is the whole number n. -/
def Whole (w : Nat) (n : Int) : Prop :=
  ∃ (s : Bool) (m k : Nat), k ≤ 1074 ∧ double.read w = .number s m (-(k : Int)) ∧ signed s m 0 = n * 2 ^ k

theorem signed_up (s : Bool) (m u : Nat) : signed s m u = signed s m 0 * 2 ^ u := by
  unfold signed
  rw [Nat.shiftLeft_eq, Nat.shiftLeft_zero]
  cases s <;> simp [Int.neg_mul]

theorem signed_at {s : Bool} {m k K : Nat} {n : Int} (h : signed s m 0 = n * 2 ^ k) (hk : k ≤ K) : signed s m (-(k : Int) - -(K : Int)).toNat = n * 2 ^ K := by
  have e : (-(k : Int) - -(K : Int)).toNat = K - k := by omega
  rw [e, signed_up, h, Int.mul_assoc, ← Int.pow_add]
  congr 2; omega

theorem natAbs_mul_pow (n : Int) (k : Nat) : (n * 2 ^ k).natAbs = n.natAbs * 2 ^ k := by
  rw [Int.natAbs_mul, Int.natAbs_pow]; rfl

theorem Whole.sum {x y : Nat} {a b : Int} (hx : Whole x a) (hy : Whole y b) :
    ∃ (s : Bool) (k : Nat), k ≤ 1074 ∧ (double.read x).sum (double.read y) = some (.number s ((a + b).natAbs * 2 ^ k) (-(k : Int))) ∧ (a + b ≠ 0 → s = decide (a + b < 0)) := by
  obtain ⟨s, m, i, hi, hr, hv⟩ := hx
  obtain ⟨t, n, j, hj, hr', hv'⟩ := hy
  have hb : min (-(i : Int)) (-(j : Int)) = -((max i j : Nat) : Int) := by omega
  have ht : signed s m (-(i : Int) - -((max i j : Nat) : Int)).toNat + signed t n (-(j : Int) - -((max i j : Nat) : Int)).toNat = (a + b) * 2 ^ (max i j) := by
    rw [signed_at hv (Nat.le_max_left i j), signed_at hv' (Nat.le_max_right i j), Int.add_mul]
  have hp : (0 : Int) < 2 ^ (max i j) := Int.pow_pos (by omega)
  refine ⟨(if (a + b) * 2 ^ (max i j) = 0 then s && t else decide ((a + b) * 2 ^ (max i j) < 0)), max i j, by omega, ?_, ?_⟩
  · rw [hr, hr']
    simp only [Datum.sum, hb, ht, natAbs_mul_pow]
  · intro h0
    have h1 : ¬ (a + b) * 2 ^ (max i j) = 0 := fun h => by
      rcases Int.mul_eq_zero.1 h with h | h
      · exact h0 h
      · omega
    rw [if_neg h1]
    by_cases h : a + b < 0
    · rw [decide_eq_true h, decide_eq_true (Int.mul_neg_of_neg_of_pos h hp)]
    · rw [decide_eq_false h, decide_eq_false (fun h2 => by have := Int.mul_nonneg (show 0 ≤ a + b by omega) (show (0 : Int) ≤ 2 ^ (max i j) by omega); omega)]

theorem signed_kept {s : Bool} {n : Int} (h0 : n ≠ 0) (hs : s = decide (n < 0)) (m : Nat) (k : Nat) (hm : m = n.natAbs * 2 ^ k) : signed s m 0 = n * 2 ^ k := by
  subst hs hm
  unfold signed
  rw [Nat.shiftLeft_zero]
  by_cases h : n < 0
  · rw [decide_eq_true h, if_pos rfl]
    have : ((n.natAbs * 2 ^ k : Nat) : Int) = -n * 2 ^ k := by
      rw [Int.natCast_mul, Int.natCast_pow, Int.ofNat_natAbs_of_nonpos (by omega)]; rfl
    rw [this, Int.neg_mul, Int.neg_neg]
  · rw [decide_eq_false h]
    have : ((n.natAbs * 2 ^ k : Nat) : Int) = n * 2 ^ k := by
      rw [Int.natCast_mul, Int.natCast_pow, Int.natAbs_of_nonneg (by omega)]; rfl
    simpa using this

/-- What is written of a whole number, read again. -/
theorem read_written {s : Bool} {n : Int} {k : Nat} (hn : n.natAbs ≤ 9007199254740992) (hk : k ≤ 1074) (hs : n ≠ 0 → s = decide (n < 0)) :
    (n = 0 ∧ double.nearest s (n.natAbs * 2 ^ k) (-(k : Int)) = double.word s 0) ∨
    (n ≠ 0 ∧ double.read (double.nearest s (n.natAbs * 2 ^ k) (-(k : Int))) = .number (decide (n < 0)) (kept n.natAbs) ((n.natAbs.log2 : Int) - 52)) := by
  by_cases h0 : n = 0
  · left
    refine ⟨h0, ?_⟩
    subst h0
    simp [Format.nearest]
  · right
    have h1 : n.natAbs ≠ 0 := by omega
    refine ⟨h0, ?_⟩
    rw [nearest_whole s n.natAbs k hn h1 hk, double_read _ _ _ (log2_le (by omega) h1) (kept_bounds (by omega) h1), hs h0]

theorem whole_written {s : Bool} {n : Int} {k : Nat} (hn : n.natAbs ≤ 4503599627370496) (hk : k ≤ 1074) (hs : n ≠ 0 → s = decide (n < 0)) :
    Whole (double.nearest s (n.natAbs * 2 ^ k) (-(k : Int))) n := by
  rcases read_written (s := s) (by omega) hk hs with ⟨h0, h⟩ | ⟨h0, h⟩
  · rw [h]
    subst h0
    refine ⟨s, 0, 1074, by omega, double_read_zero s, ?_⟩
    rw [Int.zero_mul]; unfold signed; cases s <;> rfl
  · have h1 : n.natAbs ≠ 0 := by omega
    have hl : n.natAbs.log2 ≤ 52 := by
      have : n.natAbs.log2 < 53 := (Nat.log2_lt h1).2 (by omega)
      omega
    refine ⟨decide (n < 0), kept n.natAbs, 52 - n.natAbs.log2, by omega, ?_, signed_kept h0 rfl _ _ (kept_small h1 hl)⟩
    rw [h]
    congr 1
    omega

theorem toInt_written {s : Bool} {n : Int} {k : Nat} (hn : n.natAbs ≤ 9007199254740992) (hk : k ≤ 1074) (hs : n ≠ 0 → s = decide (n < 0)) :
    (double.read (double.nearest s (n.natAbs * 2 ^ k) (-(k : Int)))).toInt .zero = some n := by
  rcases read_written (s := s) hn hk hs with ⟨h0, h⟩ | ⟨h0, h⟩
  · rw [h, h0, double_read_zero]
    cases s <;> decide +kernel
  · have h1 : n.natAbs ≠ 0 := by omega
    rw [h]
    have hc : Toward.zero.cut (decide (n < 0)) (kept n.natAbs <<< ((n.natAbs.log2 : Int) - 52).toNat) (-((n.natAbs.log2 : Int) - 52)).toNat = n.natAbs := by
      by_cases hl : n.natAbs.log2 ≤ 52
      · have e1 : ((n.natAbs.log2 : Int) - 52).toNat = 0 := by omega
        have e2 : (-((n.natAbs.log2 : Int) - 52)).toNat = 52 - n.natAbs.log2 := by omega
        rw [e1, e2, Nat.shiftLeft_zero, kept_small h1 hl]
        exact cut_exact _ _ _ _ h1
      · have e0 := log2_53 (n := n.natAbs) (by omega) h1 hl
        have e3 := log2_le (n := n.natAbs) (by omega) h1
        have e1 : ((n.natAbs.log2 : Int) - 52).toNat = 1 := by omega
        have e2 : (-((n.natAbs.log2 : Int) - 52)).toNat = 0 := by omega
        have e4 : kept n.natAbs = 2 ^ 52 := by rw [e0]; exact kept_top
        rw [e1, e2, e4]
        have := cut_exact .zero (decide (n < 0)) n.natAbs 0 h1
        rw [Nat.pow_zero, Nat.mul_one] at this
        have e5 : 2 ^ 52 <<< 1 = n.natAbs := by omega
        rw [e5]; exact this
    simp only [Datum.toInt, Datum.integral, hc, Option.some.injEq]
    have := signed_kept (n := n) h0 rfl n.natAbs 0 (by simp)
    simpa using this

/-- 'float64(n)'. -/
theorem whole_of_int (n : Int) (h : n.natAbs ≤ 4503599627370496) : Whole (FloatKind.f64.nearest n) n := by
  have := whole_written (s := decide (n < 0)) (n := n) (k := 0) h (by omega) (fun _ => rfl)
  simpa [FloatKind.nearest, FloatKind.encode, FloatKind.format, Format.write] using this

/-- '+' of two whole numbers, and 'int' of what comes out. -/
theorem whole_sum {x y : Nat} {a b : Int} (hx : Whole x a) (hy : Whole y b) (h : (a + b).natAbs ≤ 9007199254740992) :
    ∃ r, floatBits .add .f64 x y = some r ∧ floatToIntVal .f64 r .i64 = some (a + b) := by
  obtain ⟨s, k, hk, hsum, hs⟩ := Whole.sum hx hy
  refine ⟨double.nearest s ((a + b).natAbs * 2 ^ k) (-(k : Int)), ?_, ?_⟩
  · show double.add x y = _
    unfold Format.add
    rw [hsum]; rfl
  · have ht := toInt_written (s := s) h hk hs
    unfold floatToIntVal
    have e : FloatKind.f64.decode (double.nearest s ((a + b).natAbs * 2 ^ k) (-(k : Int))) = double.read (double.nearest s ((a + b).natAbs * 2 ^ k) (-(k : Int))) := rfl
    rw [e, ht]
    simp only []
    rw [if_pos]
    have h1 : IntKind.min .i64 = -9223372036854775808 := by decide +kernel
    have h2 : IntKind.max .i64 = 9223372036854775807 := by decide +kernel
    rw [h1, h2]; omega

end Go.Proofs.YtgkddimijmnpcaaGreatDoor.Flo

/-
  Package gauss, and the document's own answers to it: whether a pair may be; the sum of two.
-/
namespace Go.Proofs.YtgkddimijmnpcaaGreatDoor
open Go.RowKit
set_option linter.unusedVariables false

/-- May x be a part? -/
def partB (x : Int) : Bool := decide (-4503599627370496 ≤ x) && decide (x ≤ 4503599627370496)
/-- May the pair be? -/
def pairB (x y : Int) : Bool := partB x && partB y
/-- May both be, and their sum? -/
def addB (a b c d : Int) : Bool := pairB a b && pairB c d && pairB (a + c) (b + d)

/-- What the sum's parts and its error are. -/
def sre (a b c d : Int) : Int := if addB a b c d then a + c else 0
def sim (a b c d : Int) : Int := if addB a b c d then b + d else 0
def ser (a b c d : Int) : Int := if addB a b c d then 0 else 600

/-- A pair's value. -/
abbrev pv (x y : Int) : Value := .agg #[.int .i64 x, .int .i64 y]

theorem partB_iff {x : Int} : partB x = true ↔ -4503599627370496 ≤ x ∧ x ≤ 4503599627370496 := by simp [partB]

/-- A pair of the call's own, in block g. -/
def Two (w : World) (g : Nat) (x y : Int) : Prop :=
  g < w.heap.size ∧ w.cell? ⟨g, 0, none⟩ = some (.int .i64 x) ∧ w.cell? ⟨g, 1, none⟩ = some (.int .i64 y) ∧ w.frozen? ⟨g, 0, none⟩ = false ∧ w.frozen? ⟨g, 1, none⟩ = false

theorem Two.later {w w' : World} {g : Nat} {x y : Int} (h : Two w g x y) (hb : Below w.heap.size w w') : Two w' g x y := by
  obtain ⟨h1, h2, h3, h4, h5⟩ := h
  exact ⟨Nat.lt_of_lt_of_le h1 hb.size, (hb.cell (by exact h1)).trans h2, (hb.cell (by exact h1)).trans h3, (hb.frozen (by exact h1)).trans h4, (hb.frozen (by exact h1)).trans h5⟩

theorem Two.alloc {w : World} {g : Nat} {x y : Int} (h : Two w g x y) (o : Obj) : Two (w.alloc o) g x y := h.later ((Below.refl _ _).alloc (Nat.le_refl _) _)

theorem Two.drew {w : World} {g : Nat} {x y : Int} (h : Two w g x y) : Two w.drew g x y := h.later (Below.refl _ _).drew

theorem two_new (w : World) (x y : Int) (t : TypeId) : Two (w.alloc (.cells #[.int .i64 x, .int .i64 y] t)) w.heap.size x y := by
  refine ⟨by simp, ?_, ?_, ?_, ?_⟩
  · simp [World.cell?_alloc_at]
  · simp [World.cell?_alloc_at]
  · exact World.frozen?_alloc_at _ _ _ _ rfl
  · exact World.frozen?_alloc_at _ _ _ _ rfl

/-- The world behind a pair's store. -/
abbrev putTwo (w : World) (g : Nat) (x y : Int) : World := (w.setCell ⟨g, 0, none⟩ (.int .i64 x)).setCell ⟨g, 1, none⟩ (.int .i64 y)

theorem two_put {w : World} {g : Nat} {a b : Int} (h : Two w g a b) (x y : Int) : Two (putTwo w g x y) g x y := by
  obtain ⟨h1, h2, h3, h4, h5⟩ := h
  refine ⟨by simpa using h1, ?_, ?_, ?_, ?_⟩
  · rw [World.cell?_setCell_other _ _ _ _ (by simp)]
    exact World.cell?_setCell_same _ _ _ h2
  · refine World.cell?_setCell_same _ _ _ (u := .int .i64 b) ?_
    rw [World.cell?_setCell_other _ _ _ _ (by simp)]; exact h3
  · simpa [World.frozen?_setCell] using h4
  · simpa [World.frozen?_setCell] using h5

theorem two_put_other {w : World} {g k : Nat} {a b : Int} (h : Two w g a b) (hk : k ≠ g) (x y : Int) : Two (putTwo w k x y) g a b := by
  obtain ⟨h1, h2, h3, h4, h5⟩ := h
  have n0 : ∀ o j, (⟨k, o, none⟩ : Addr) ≠ ⟨g, j, none⟩ := fun o j e => hk (by injection e)
  refine ⟨by simpa using h1, ?_, ?_, ?_, ?_⟩
  · rw [World.cell?_setCell_other _ _ _ _ (by first | exact n0 _ _ | exact (n0 _ _).symm), World.cell?_setCell_other _ _ _ _ (by first | exact n0 _ _ | exact (n0 _ _).symm)]; exact h2
  · rw [World.cell?_setCell_other _ _ _ _ (by first | exact n0 _ _ | exact (n0 _ _).symm), World.cell?_setCell_other _ _ _ _ (by first | exact n0 _ _ | exact (n0 _ _).symm)]; exact h3
  · simpa [World.frozen?_setCell] using h4
  · simpa [World.frozen?_setCell] using h5

theorem two_set0 {w : World} {g : Nat} {x y : Int} (h : Two w g x y) (v : Int) : Two (w.setCell ⟨g, 0, none⟩ (.int .i64 v)) g v y := by
  obtain ⟨h1, h2, h3, h4, h5⟩ := h
  refine ⟨by simpa using h1, World.cell?_setCell_same _ _ _ h2, ?_, ?_, ?_⟩
  · rw [World.cell?_setCell_other _ _ _ _ (by simp)]; exact h3
  · simpa [World.frozen?_setCell] using h4
  · simpa [World.frozen?_setCell] using h5

theorem two_set1 {w : World} {g : Nat} {x y : Int} (h : Two w g x y) (v : Int) : Two (w.setCell ⟨g, 1, none⟩ (.int .i64 v)) g x v := by
  obtain ⟨h1, h2, h3, h4, h5⟩ := h
  refine ⟨by simpa using h1, ?_, World.cell?_setCell_same _ _ _ h3, ?_, ?_⟩
  · rw [World.cell?_setCell_other _ _ _ _ (by simp)]; exact h2
  · simpa [World.frozen?_setCell] using h4
  · simpa [World.frozen?_setCell] using h5

theorem two_set_other {w : World} {g k : Nat} {x y : Int} (h : Two w g x y) (hk : k ≠ g) (o : Nat) (v : Value) : Two (w.setCell ⟨k, o, none⟩ v) g x y := by
  obtain ⟨h1, h2, h3, h4, h5⟩ := h
  have n0 : ∀ o j, (⟨k, o, none⟩ : Addr) ≠ ⟨g, j, none⟩ := fun o j e => hk (by injection e)
  refine ⟨by simpa using h1, ?_, ?_, ?_, ?_⟩
  · rw [World.cell?_setCell_other _ _ _ _ (by first | exact n0 _ _ | exact (n0 _ _).symm)]; exact h2
  · rw [World.cell?_setCell_other _ _ _ _ (by first | exact n0 _ _ | exact (n0 _ _).symm)]; exact h3
  · simpa [World.frozen?_setCell] using h4
  · simpa [World.frozen?_setCell] using h5

theorem below_put {B : Nat} {a w : World} (h : Below B a w) {g : Nat} (hg : B ≤ g) (x y : Int) : Below B a (putTwo w g x y) := (h.setCell (p := ⟨g, 0, none⟩) hg _).setCell (p := ⟨g, 1, none⟩) hg _

/-- What a function answers whose answer is a pair. -/
theorem ret_pair {fn : Func} {tmps : Array Value} {t : Tmp} {w : World} {g : Nat} {x y : Int} (h : fn.results = #[.cell t 25]) (ht : tmps[t]? = some (.pointer (some ⟨g, 0, none⟩))) (hg : Two w g x y) :
    (results fn tmps).run Tryz.prog w = .ok (pv x y) w := by
  obtain ⟨h1, h2, h3, h4, h5⟩ := hg
  simp [results, h, ht, h2, h3, go_sem]

/-- What a function answers whose answers are a pair and a number. -/
theorem ret_pair2 {fn : Func} {tmps : Array Value} {t u : Tmp} {w : World} {g : Nat} {x y : Int} {v : Value} (h : fn.results = #[.cell t 25, .tmp u]) (ht : tmps[t]? = some (.pointer (some ⟨g, 0, none⟩))) (hu : tmps[u]? = some v) (hg : Two w g x y) :
    (results fn tmps).run Tryz.prog w = .ok (.tuple #[pv x y, v]) w := by
  obtain ⟨h1, h2, h3, h4, h5⟩ := hg
  simp [results, h, ht, hu, h2, h3, go_sem]

theorem within_any (x : Int) (w : World) :
    Calls Tryz.prog 160 #[.int .i64 x] w fun e w' => e = .returned (.bool (partB x)) ∧ w' = w := by
  go_enter Tryz.func160, Tryz.ntmps160
  go_wp2
  all_goals (go_ret; exact ⟨ret_bool (by unfold partB; simp_all <;> omega), rfl⟩)

theorem rwithin_any (x : Int) (w : World) :
    Calls Tryz.prog 68 #[.int .i64 x, .int .i64 4503599627370496] w fun e w' => e = .returned (.bool (partB x)) ∧ w' = w := by
  go_enter Tryz.func68, Tryz.ntmps68
  go_wp2
  all_goals (go_ret; exact ⟨ret_bool (by unfold partB; simp_all <;> omega), rfl⟩)

theorem gmay_any (x y : Int) (w : World) :
    Calls Tryz.prog 136 #[pv x y] w fun e w' => e = .returned (.bool (pairB x y)) ∧ Below w.heap.size w w' := by
  cases hx : partB x <;>
  (go_enter Tryz.func136, Tryz.ntmps136
   go_wp2_with (first | (go_at_call 160; refine (within_any _ _).mono ?_; rintro e w1 ⟨rfl, rfl⟩))
   all_goals (go_ret; exact ⟨ret_bool (by unfold pairB; simp [hx]), (Below.refl _ _).alloc (Nat.le_refl _) _⟩))

theorem rmay_any (x y : Int) (w : World) :
    Calls Tryz.prog 35 #[pv x y] w fun e w' => e = .returned (.bool (pairB x y)) ∧ Below w.heap.size w w' := by
  cases hx : partB x <;>
  (go_enter Tryz.func35, Tryz.ntmps35
   go_wp2_with (first | (go_at_call 68; refine (rwithin_any _ _).mono ?_; rintro e w1 ⟨rfl, rfl⟩))
   all_goals (go_ret; exact ⟨ret_bool (by unfold pairB; simp [hx]), (Below.refl _ _).alloc (Nat.le_refl _) _⟩))

/-- The pair as the language's complex number. -/
theorem number_any (x y : Int) (w : World) :
    Calls Tryz.prog 138 #[pv x y] w fun e w' => e = .returned (.complex .f64 (FloatKind.f64.nearest x) (FloatKind.f64.nearest y)) ∧ Below w.heap.size w w' := by
  have hc : ∀ n w, (convert 3 176 (.int .i64 n)).run Tryz.prog w = .ok (.float .f64 (FloatKind.f64.nearest n)) w := fun n w => by
    simp [convert, run_underlying Tryz.underlying3, run_underlying Tryz.underlying176, Conv.intToFloat]
  go_enter Tryz.func138, Tryz.ntmps138
  go_wp2
  go_ret
  exact ⟨rfl, (Below.refl _ _).alloc (Nat.le_refl _) _⟩

/-- A complex number of whole parts as a pair. -/
theorem pair_any (p q : Nat) (x y : Int) (w : World) (hx : floatToIntVal .f64 p .i64 = some x) (hy : floatToIntVal .f64 q .i64 = some y) :
    Calls Tryz.prog 137 #[.complex .f64 p q] w fun e w' => e = .returned (pv x y) ∧ Below w.heap.size w w' := by
  have hc : ∀ w, (convert 176 3 (.float .f64 p)).run Tryz.prog w = .ok (.int .i64 x) w := fun w => run_convert_float_int w _ _ .f64 .i64 p x (by rw [Tryz.underlying176]; rfl) Tryz.underlying3 hx
  have hd : ∀ w, (convert 176 3 (.float .f64 q)).run Tryz.prog w = .ok (.int .i64 y) w := fun w => run_convert_float_int w _ _ .f64 .i64 q y (by rw [Tryz.underlying176]; rfl) Tryz.underlying3 hy
  clear hx hy
  go_enter Tryz.func137, Tryz.ntmps137
  go_wp2
  exact bodyPost_ret (ret_pair rfl rfl (two_new _ _ _ _)) rfl ⟨rfl, (Below.refl _ _).alloc (Nat.le_refl _) _⟩

theorem add_no {a b c d : Int} (h : addB a b c d = false) : sre a b c d = 0 ∧ sim a b c d = 0 ∧ ser a b c d = 600 := by simp [sre, sim, ser, h]
theorem add_yes {a b c d : Int} (h : addB a b c d = true) : sre a b c d = a + c ∧ sim a b c d = b + d ∧ ser a b c d = 0 := by simp [sre, sim, ser, h]

/-- What a call of Add keeps in its first three blocks. -/
abbrev Add3 (w0 : World) (n : Nat) (a b c d : Int) (w : World) : Prop :=
  Below n w0 w ∧ Two w n a b ∧ Two w (n + 1) c d ∧ Two w (n + 2) 0 0

theorem add3_new (w : World) (a b c d : Int) (t1 t2 t3 : TypeId) :
    Add3 w w.heap.size a b c d (((w.alloc (.cells #[.int .i64 a, .int .i64 b] t1)).alloc (.cells #[.int .i64 c, .int .i64 d] t2)).alloc (.cells #[.int .i64 0, .int .i64 0] t3)) := by
  refine ⟨((((Below.refl _ _).alloc (Nat.le_refl _) _).alloc (by simp) _).alloc (by simp; omega) _), ((two_new _ _ _ _).alloc _).alloc _, ?_, ?_⟩
  · have := (two_new (w.alloc (.cells #[.int .i64 a, .int .i64 b] t1)) c d t2).alloc (.cells #[.int .i64 0, .int .i64 0] t3)
    simpa using this
  · have := two_new ((w.alloc (.cells #[.int .i64 a, .int .i64 b] t1)).alloc (.cells #[.int .i64 c, .int .i64 d] t2)) 0 0 t3
    simpa using this

theorem Add3.later {w0 w w' : World} {n : Nat} {a b c d : Int} (h : Add3 w0 n a b c d w) (hb : Below w.heap.size w w') : Add3 w0 n a b c d w' := by
  obtain ⟨h0, h1, h2, h3⟩ := h
  exact ⟨h0.trans (hb.mono (by have := h1.1; omega)), h1.later hb, h2.later hb, h3.later hb⟩

theorem pairB_parts {x y : Int} (h : pairB x y = true) : (-4503599627370496 ≤ x ∧ x ≤ 4503599627370496) ∧ (-4503599627370496 ≤ y ∧ y ≤ 4503599627370496) := by
  simp only [pairB, Bool.and_eq_true, partB_iff] at h
  exact h

/-- The end of a call of Add. -/
theorem add_end {fn : Func} {act : Act} {w w2 : World} {n : Nat} {a b c d x y z : Int} (h : Add3 w n a b c d w2) (hn : w.heap.size = n) (hr : fn.results = #[.cell 4 25, .tmp 5]) (h4 : act.tmps[4]? = some (.pointer (some ⟨n + 2, 0, none⟩))) (h5 : act.tmps[5]? = some (.int .i64 z)) (hd : act.defers = []) (hx : x = sre a b c d) (hy : y = sim a b c d) (hv : z = ser a b c d) :
    bodyPost Tryz.prog fn (fun e w' => e = .returned (.tuple #[pv (sre a b c d) (sim a b c d), .int .i64 (ser a b c d)]) ∧ Below w.heap.size w w') Exit.ret act (putTwo w2 (n + 2) x y) := by
  subst hx hy hv
  exact bodyPost_ret (ret_pair2 hr h4 h5 (two_put h.2.2.2 _ _)) hd ⟨rfl, by rw [hn]; exact below_put h.1 (by omega) _ _⟩

set_option maxHeartbeats 1000000 in
theorem radd_any (a b c d : Int) (w : World) :
    Calls Tryz.prog 119 #[pv a b, pv c d] w fun e w' => e = .returned (.tuple #[pv (sre a b c d) (sim a b c d), .int .i64 (ser a b c d)]) ∧ Below w.heap.size w w' := by
  have H0 := add3_new w a b c d 25 25 25
  cases h1 : pairB a b
  · have hno := add_no (a := a) (b := b) (c := c) (d := d) (by simp [addB, h1])
    go_enter Tryz.func119, Tryz.ntmps119
    go_wp2_with fail
    refine (rmay_any _ _ _).mono ?_
    rintro e w1 ⟨rfl, k1⟩
    replace H0 := H0.later k1
    obtain ⟨n, hn⟩ : ∃ n, w.heap.size = n := ⟨_, rfl⟩
    rw [hn] at H0 ⊢
    have HH : Hid (Add3 w n a b c d w1) := H0
    obtain ⟨q0, q1, q2, q3⟩ := H0
    obtain ⟨_, e1, e2, e3, e4⟩ := q3
    clear k1
    go_wp2_with fail
    exact add_end HH.out hn rfl rfl rfl rfl hno.1.symm hno.2.1.symm hno.2.2.symm
  · have b1 := pairB_parts h1
    go_enter Tryz.func119, Tryz.ntmps119
    go_wp2_with fail
    refine (rmay_any _ _ _).mono ?_
    rintro e w1 ⟨rfl, k1⟩
    replace H0 := H0.later k1
    obtain ⟨n, hn⟩ : ∃ n, w.heap.size = n := ⟨_, rfl⟩
    rw [hn] at H0 ⊢
    have HH : Hid (Add3 w n a b c d w1) := H0
    obtain ⟨q0, q1, q2, q3⟩ := H0
    obtain ⟨_, e1, e2, _, _⟩ := q2
    clear k1 q1 q3
    cases h2 : pairB c d
    · have hno := add_no (a := a) (b := b) (c := c) (d := d) (by simp [addB, h2])
      go_wp2_with fail
      refine (rmay_any _ _ _).mono ?_
      rintro e w2 ⟨rfl, k2⟩
      have H2 : Hid (Add3 w n a b c d w2) := HH.out.later k2
      obtain ⟨_, d1, d2, d3, d4⟩ := H2.out.2.2.2
      clear k2
      go_wp2_with fail
      exact add_end H2.out hn rfl rfl rfl rfl hno.1.symm hno.2.1.symm hno.2.2.symm
    · have b2 := pairB_parts h2
      obtain ⟨⟨a1, a2⟩, a3, a4⟩ := b1
      obtain ⟨⟨c1, c2⟩, c3, c4⟩ := b2
      go_wp2_with fail
      refine (rmay_any _ _ _).mono ?_
      rintro e w2 ⟨rfl, k2⟩
      have H2 : Hid (Add3 w n a b c d w2) := HH.out.later k2
      obtain ⟨_, f1, f2, _, _⟩ := H2.out.2.1
      obtain ⟨_, g1, g2, _, _⟩ := H2.out.2.2.1
      clear k2 e1 e2
      go_wp2_with fail
      refine (rmay_any _ _ _).mono ?_
      rintro e w3 ⟨rfl, k3⟩
      have T3 := (two_new w2 (a + c) (b + d) 25).later k3
      have H3 : Hid (Add3 w n a b c d w3) := (H2.out.later ((Below.refl _ _).alloc (Nat.le_refl _) _)).later k3
      obtain ⟨_, d1, d2, d3, d4⟩ := H3.out.2.2.2
      clear k3 f1 f2 g1 g2
      cases h3 : pairB (a + c) (b + d)
      · have hno := add_no (a := a) (b := b) (c := c) (d := d) (by simp [addB, h3])
        go_wp2_with fail
        exact add_end H3.out hn rfl rfl rfl rfl hno.1.symm hno.2.1.symm hno.2.2.symm
      · have hyes := add_yes (a := a) (b := b) (c := c) (d := d) (by simp [addB, h1, h2, h3])
        obtain ⟨_, t1, t2, _, _⟩ := T3
        go_wp2_with fail
        exact add_end H3.out hn rfl rfl rfl rfl hyes.1.symm hyes.2.1.symm hyes.2.2.symm

end Go.Proofs.YtgkddimijmnpcaaGreatDoor

/-
  Package gauss: Add answers the sum of two pairs, by way of the language's complex numbers.
-/
namespace Go.Proofs.YtgkddimijmnpcaaGreatDoor
open Go.RowKit
set_option linter.unusedVariables false

theorem natAbs_le {x : Int} (h : -4503599627370496 ≤ x ∧ x ≤ 4503599627370496) : x.natAbs ≤ 4503599627370496 := by omega

/-- Two numbers, as floats, summed and cut to whole numbers again. -/
theorem sum_exact {a c : Int} (ha : -4503599627370496 ≤ a ∧ a ≤ 4503599627370496) (hc : -4503599627370496 ≤ c ∧ c ≤ 4503599627370496) :
    ∃ r, floatBits .add .f64 (FloatKind.f64.nearest a) (FloatKind.f64.nearest c) = some r ∧ floatToIntVal .f64 r .i64 = some (a + c) :=
  Flo.whole_sum (Flo.whole_of_int a (natAbs_le ha)) (Flo.whole_of_int c (natAbs_le hc)) (by omega)

/-- What the region of the sum keeps: the two pairs' cells. -/
abbrev HeldA (w0 : World) (n : Nat) (a b c d : Int) (w : World) : Prop :=
  Hid (Add3 w0 n a b c d w) ∧ w.cell? ⟨n, 0, none⟩ = some (.int .i64 a) ∧ w.cell? ⟨n, 1, none⟩ = some (.int .i64 b) ∧ w.cell? ⟨n + 1, 0, none⟩ = some (.int .i64 c) ∧ w.cell? ⟨n + 1, 1, none⟩ = some (.int .i64 d)

theorem heldA_of {w0 w : World} {n : Nat} {a b c d : Int} (h : Add3 w0 n a b c d w) : HeldA w0 n a b c d w := ⟨h, h.2.1.2.1, h.2.1.2.2.1, h.2.2.1.2.1, h.2.2.1.2.2.1⟩

theorem heldA_later {w0 w w' : World} {n : Nat} {a b c d : Int} (hb : Below w.heap.size w w') (h : HeldA w0 n a b c d w) : HeldA w0 n a b c d w' := heldA_of (h.1.out.later hb)

/-- The place of the sum, made ahead of it. -/
def Six (n : Nat) (w : World) (k : Nat) : Prop := Two w k 0 0 ∧ n + 2 < k

theorem six_new {w w3 : World} {n : Nat} {t : TypeId} (h : n + 2 < w.heap.size) (hb : Below (w.alloc (.cells #[.int .i64 0, .int .i64 0] t)).heap.size (w.alloc (.cells #[.int .i64 0, .int .i64 0] t)) w3) : Six n w3 w.heap.size :=
  ⟨(two_new _ _ _ _).later hb, h⟩

theorem six_newd {w w3 : World} {n : Nat} {t : TypeId} (h : n + 2 < w.heap.size) (hb : Below (w.alloc (.cells #[.int .i64 0, .int .i64 0] t)).drew.heap.size (w.alloc (.cells #[.int .i64 0, .int .i64 0] t)).drew w3) : Six n w3 w.heap.size :=
  ⟨(two_new _ _ _ _).drew.later hb, h⟩

theorem six_later {w w3 : World} {n k : Nat} (h : Six n w k) (hb : Below w.heap.size w w3) : Six n w3 k := ⟨h.1.later hb, h.2⟩

theorem heldA_put {w0 w : World} {n k : Nat} {a b c d : Int} (s : Six n w k) (h : HeldA w0 n a b c d w) (x y : Int) : HeldA w0 n a b c d (putTwo w k x y) := by
  obtain ⟨h0, h1, h2, h3⟩ := h.1.out
  have hk := s.2
  exact heldA_of ⟨below_put h0 (by omega) _ _, two_put_other h1 (by omega) _ _, two_put_other h2 (by omega) _ _, two_put_other h3 (by omega) _ _⟩

theorem heldA_swap {w0 w : World} {n : Nat} {a b c d x y : Int} {t : TypeId} (hk : n + 2 < w.heap.size) (h : HeldA w0 n a b c d (w.alloc (.cells #[.int .i64 0, .int .i64 0] t))) : HeldA w0 n a b c d (w.alloc (.cells #[.int .i64 x, .int .i64 y] t)) := by
  have e : ∀ k, k < w.heap.size → (w.alloc (.cells #[.int .i64 x, .int .i64 y] t)).heap[k]? = (w.alloc (.cells #[.int .i64 0, .int .i64 0] t)).heap[k]? := fun k hk => by
    rw [Below.heap_alloc _ _ _ hk, Below.heap_alloc _ _ _ hk]
  have two : ∀ {g : Nat} {p q : Int}, g < w.heap.size → Two (w.alloc (.cells #[.int .i64 0, .int .i64 0] t)) g p q → Two (w.alloc (.cells #[.int .i64 x, .int .i64 y] t)) g p q := fun {g p q} hg ⟨h1, h2, h3, h4, h5⟩ =>
    ⟨by simp; omega, by rw [← h2]; exact World.cell?_of_block (e g hg), by rw [← h3]; exact World.cell?_of_block (e g hg), by rw [← h4]; exact World.frozen?_of_block (e g hg), by rw [← h5]; exact World.frozen?_of_block (e g hg)⟩
  obtain ⟨h0, h1, h2, h3⟩ := h.1.out
  exact heldA_of ⟨⟨h0.os, h0.tape, h0.output, by simpa using h0.size, fun k hk2 => (e k (by omega)).trans (h0.block k hk2)⟩, two (by omega) h1, two (by omega) h2, two (by omega) h3⟩

theorem held_id {w : World} {k : Nat} (w0 : World) (n : Nat) (a b c d x y : Int) (s : Six n w k) (h : HeldA w0 n a b c d (putTwo w k x y)) : HeldA w0 n a b c d (putTwo w k x y) := h

set_option maxHeartbeats 2000000 in
theorem gadd_any (a b c d : Int) (w : World) :
    Calls Tryz.prog 103 #[pv a b, pv c d] w fun e w' => e = .returned (.tuple #[pv (sre a b c d) (sim a b c d), .int .i64 (ser a b c d)]) ∧ Below w.heap.size w w' := by
  have H0 := add3_new w a b c d 25 25 25
  cases h1 : pairB a b
  · have hno := add_no (a := a) (b := b) (c := c) (d := d) (by simp [addB, h1])
    go_enter Tryz.func103, Tryz.ntmps103
    go_wp2_with fail
    refine (gmay_any _ _ _).mono ?_
    rintro e w1 ⟨rfl, k1⟩
    replace H0 := H0.later k1
    obtain ⟨n, hn⟩ : ∃ n, w.heap.size = n := ⟨_, rfl⟩
    rw [hn] at H0 ⊢
    have HH : Hid (Add3 w n a b c d w1) := H0
    obtain ⟨q0, q1, q2, q3⟩ := H0
    obtain ⟨_, e1, e2, e3, e4⟩ := q3
    clear k1
    go_wp2_with fail
    exact add_end HH.out hn rfl rfl rfl rfl hno.1.symm hno.2.1.symm hno.2.2.symm
  · have b1 := pairB_parts h1
    go_enter Tryz.func103, Tryz.ntmps103
    go_wp2_with fail
    refine (gmay_any _ _ _).mono ?_
    rintro e w1 ⟨rfl, k1⟩
    replace H0 := H0.later k1
    obtain ⟨n, hn⟩ : ∃ n, w.heap.size = n := ⟨_, rfl⟩
    rw [hn] at H0 ⊢
    have HH : Hid (Add3 w n a b c d w1) := H0
    obtain ⟨q0, q1, q2, q3⟩ := H0
    obtain ⟨_, e1, e2, _, _⟩ := q2
    clear k1 q1 q3
    cases h2 : pairB c d
    · have hno := add_no (a := a) (b := b) (c := c) (d := d) (by simp [addB, h2])
      go_wp2_with fail
      refine (gmay_any _ _ _).mono ?_
      rintro e w2 ⟨rfl, k2⟩
      have H2 : Hid (Add3 w n a b c d w2) := HH.out.later k2
      obtain ⟨_, d1, d2, d3, d4⟩ := H2.out.2.2.2
      clear k2
      go_wp2_with fail
      exact add_end H2.out hn rfl rfl rfl rfl hno.1.symm hno.2.1.symm hno.2.2.symm
    · have b2 := pairB_parts h2
      obtain ⟨re, r1, r2⟩ := sum_exact b1.1 b2.1
      obtain ⟨im, r3, r4⟩ := sum_exact b1.2 b2.2
      have HR : Hid (floatToIntVal .f64 re .i64 = some (a + c) ∧ floatToIntVal .f64 im .i64 = some (b + d)) := ⟨r2, r4⟩
      have hop := fun t w => run_complex_sum (P := Tryz.prog) w .add (Or.inl rfl) t .f64 _ _ _ _ re im (show cSumBits .add .f64 (FloatKind.f64.nearest a) (FloatKind.f64.nearest b) (FloatKind.f64.nearest c) (FloatKind.f64.nearest d) = some (re, im) by unfold cSumBits; rw [r1, r3]; rfl)
      clear r1 r2 r3 r4 b1 b2
      go_wp2_with fail
      refine (gmay_any _ _ _).mono ?_
      rintro e w2 ⟨rfl, k2⟩
      have H2 : Hid (Add3 w n a b c d w2) := HH.out.later k2
      have hz : n + 2 < w2.drew.heap.size := H2.out.2.2.2.1
      have hz2 : n + 2 < w2.heap.size := H2.out.2.2.2.1
      clear k2 e1 e2
      go_wp2_with fail
      go_region_held3 (HeldA w n a b c d) (first | exact heldA_put T6 (by assumption) _ _ | exact heldA_swap (by omega) (by assumption) | exact heldA_later hb2 (by assumption) | exact heldA_of (H2.out.later (Below.refl _ _).drew) | exact heldA_later ((Below.refl _ _).alloc (Nat.le_refl _) _) (by assumption))
        (first
          | (go_at_call 138; refine (number_any _ _ _).mono ?_; rintro e w3 ⟨rfl, hb2⟩; have hz := hb2.size; first | (have T6 := six_newd (n := n) (by omega) hb2; obtain ⟨_, u1, u2, u3, u4⟩ := id T6.1) | (have T6 := six_new (n := n) (by omega) hb2; obtain ⟨_, u1, u2, u3, u4⟩ := id T6.1) | (replace T6 := six_later T6 hb2; obtain ⟨_, u1, u2, u3, u4⟩ := id T6.1) | skip)
          | (go_at_call 137; refine (pair_any _ _ _ _ _ HR.out.1 HR.out.2).mono ?_; rintro e w3 ⟨rfl, hb2⟩; have hz := hb2.size; first | (have T6 := six_newd (n := n) (by omega) hb2; obtain ⟨_, u1, u2, u3, u4⟩ := id T6.1) | (have T6 := six_new (n := n) (by omega) hb2; obtain ⟨_, u1, u2, u3, u4⟩ := id T6.1) | (replace T6 := six_later T6 hb2; obtain ⟨_, u1, u2, u3, u4⟩ := id T6.1) | skip))
      all_goals
        (first
          | (have T7 := two_put T6.1 (a + c) (b + d); have S7 := held_id w n a b c d (a + c) (b + d) T6 (by assumption))
          | (have T7 := two_new w3 (a + c) (b + d) 25; have S7 : HeldA w n a b c d (w3.alloc (.cells #[.int .i64 (a + c), .int .i64 (b + d)] 25)) := by assumption)
         have TT := id T7
         obtain ⟨_, t1, t2, _, _⟩ := TT
         go_wp2_with fail
         refine (gmay_any _ _ _).mono ?_
         rintro e w4 ⟨rfl, k4⟩
         replace T7 := T7.later k4
         have S4 : Hid (Add3 w n a b c d w4) := S7.1.out.later k4
         obtain ⟨_, d1, d2, d3, d4⟩ := S4.out.2.2.2
         obtain ⟨_, z1, z2, _, _⟩ := T7
         clear k4 S7 t1 t2
         cases h3 : pairB (a + c) (b + d)
         · have hno := add_no (a := a) (b := b) (c := c) (d := d) (by simp [addB, h3])
           go_wp2_with fail
           exact add_end S4.out hn rfl rfl rfl rfl hno.1.symm hno.2.1.symm hno.2.2.symm
         · have hyes := add_yes (a := a) (b := b) (c := c) (d := d) (by simp [addB, h1, h2, h3])
           go_wp2_with fail
           exact add_end S4.out hn rfl rfl rfl rfl hyes.1.symm hyes.2.1.symm hyes.2.2.symm)

end Go.Proofs.YtgkddimijmnpcaaGreatDoor

/-
  Package gauss: Add at pairs whose sum may be, and at others.
-/
namespace Go.Proofs.YtgkddimijmnpcaaGreatDoor
open Go.RowKit
set_option linter.unusedVariables false
set_option linter.unusedSimpArgs false

/-- Add at pairs whose sum may be. -/
theorem gadd_yes {a b c d : Int} (x y : Int) (h : addB a b c d = true) (hx : x = a + c) (hy : y = b + d) (w : World) :
    Calls Tryz.prog 103 #[pv a b, pv c d] w fun e w' => e = .returned (.tuple #[pv x y, .int .i64 0]) ∧ Below w.heap.size w w' := by
  have C := gadd_any a b c d w
  have e := add_yes h
  rw [e.1, e.2.1, e.2.2] at C
  subst hx hy
  exact C

/-- Add at others. -/
theorem gadd_no {a b c d : Int} (h : addB a b c d = false) (w : World) :
    Calls Tryz.prog 103 #[pv a b, pv c d] w fun e w' => e = .returned (.tuple #[pv 0 0, .int .i64 600]) ∧ Below w.heap.size w w' := by
  have C := gadd_any a b c d w
  have e := add_no h
  rw [e.1, e.2.1, e.2.2] at C
  exact C

/-- Small sums may be. -/
theorem add_small {a b c d : Int} (ha : -2251799813685248 ≤ a ∧ a ≤ 2251799813685248) (hb : -2251799813685248 ≤ b ∧ b ≤ 2251799813685248) (hc : -2251799813685248 ≤ c ∧ c ≤ 2251799813685248) (hd : -2251799813685248 ≤ d ∧ d ≤ 2251799813685248) : addB a b c d = true := by
  simp [addB, pairB, partB]; omega

/-- Add at small pairs. -/
theorem gadd_small {a b c d : Int} (x y : Int) (hx : x = a + c) (hy : y = b + d) (ha : -2251799813685248 ≤ a ∧ a ≤ 2251799813685248) (hb : -2251799813685248 ≤ b ∧ b ≤ 2251799813685248) (hc : -2251799813685248 ≤ c ∧ c ≤ 2251799813685248) (hd : -2251799813685248 ≤ d ∧ d ≤ 2251799813685248) (w : World) :
    Calls Tryz.prog 103 #[pv a b, pv c d] w fun e w' => e = .returned (.tuple #[pv x y, .int .i64 0]) ∧ Below w.heap.size w w' := gadd_yes x y (add_small ha hb hc hd) hx hy w

/-- 'a % (MaxNum + 1)'. -/
theorem rem_num (a : Int) : ∃ x, a.tmod 1099511627777 = x ∧ -1099511627776 ≤ x ∧ x ≤ 1099511627776 := by
  refine ⟨_, rfl, ?_, ?_⟩
  · have := Int.tmod_lt_of_pos (-a) (b := 1099511627777) (by omega)
    rw [Int.neg_tmod] at this
    omega
  · have := Int.tmod_lt_of_pos a (b := 1099511627777) (by omega)
    omega

end Go.Proofs.YtgkddimijmnpcaaGreatDoor

/-
  Package count's Add, and the document's own, by contracts.
-/
namespace Go.Proofs.YtgkddimijmnpcaaGreatDoor
open Go.RowKit
set_option linter.unusedVariables false
set_option linter.unusedSimpArgs false

/-- May it be counted? -/
def cntB (c : Ce) (x y : Int) : Bool := decide (c.kind = 1) && addB c.re c.im x y
/-- A cell with another number. -/
abbrev cN (c : Ce) (x y : Int) : Ce := ⟨c.kind, c.set, c.time, c.node, c.val, x, y, c.ents, c.elems, c.seen⟩
/-- The cell once (x, y) was added. -/
def cntC (c : Ce) (x y : Int) : Ce := cN c (c.re + x) (c.im + y)

/-- The document's sum at pairs whose sum may be. -/
theorem radd_yes {a b c d : Int} (x y : Int) (h : addB a b c d = true) (hx : x = a + c) (hy : y = b + d) (w : World) :
    Calls Tryz.prog 119 #[pv a b, pv c d] w fun e w' => e = .returned (.tuple #[pv x y, .int .i64 0]) ∧ Below w.heap.size w w' := by
  have C := radd_any a b c d w
  have e := add_yes h
  rw [e.1, e.2.1, e.2.2] at C
  subst hx hy
  exact C

/-- The document's sum at others. -/
theorem radd_no {a b c d : Int} (h : addB a b c d = false) (w : World) :
    Calls Tryz.prog 119 #[pv a b, pv c d] w fun e w' => e = .returned (.tuple #[pv 0 0, .int .i64 600]) ∧ Below w.heap.size w w' := by
  have C := radd_any a b c d w
  have e := add_no h
  rw [e.1, e.2.1, e.2.2] at C
  exact C

/-- The end of a call that is refused. -/
theorem cnt_no {fn : Func} {act : Act} {w w2 : World} {o : Obj} {h : Nat} {c : Ce} {p : Pl} {t n : Int} (H : Set3 w h c p t n w2) (hr : fn.results = #[.cell 4 30, .tmp 5]) (h6 : act.tmps[4]? = some (.pointer (some ⟨h + 2, 0, none⟩))) (h7 : act.tmps[5]? = some (.int .i64 800)) (hd : act.defers = []) :
    bodyPost Tryz.prog fn (fun e w' => e = .returned (.tuple #[ceV ce0 pl0, .int .i64 800]) ∧ Below h w w') Exit.ret act (put10 w2 (h + 2) (.int .i64 0) (.bool false) (.int .i64 0) (.int .i64 0) (.string ByteArray.empty) (.int .i64 0) (.int .i64 0) (.slice none 0 0) (.slice none 0 0) (.slice none 0 0) |>.alloc o) :=
  bodyPost_ret (ret_cell2 hr h6 h7 ((H.2.2.2.put10 _ _ _ _ _ _ _ _ _ _).alloc o)) hd ⟨rfl, (below_put10 H.1 (by omega) _ _ _ _ _ _ _ _ _ _).alloc (by have := H.size; simp; omega) _⟩

set_option maxHeartbeats 1000000 in
set_option maxRecDepth 100000 in
/-- Add refuses. -/
theorem cadd_no (c : Ce) (p : Pl) (x y : Int) (w : World) (hb : cntB c x y = false) :
    Calls Tryz.prog 57 #[ceV c p, pv x y] w fun e w' => e = .returned (.tuple #[ceV ce0 pl0, .int .i64 800]) ∧ Below w.heap.size w w' := by
  have H0 : Hid (Set3 w w.heap.size c p x y (((w.alloc (.cells (ceL c p).toArray 30)).alloc (.cells #[.int .i64 x, .int .i64 y] 25)).alloc (.cells (ceL ce0 pl0).toArray 30))) := set3_new _ _ _ _ _ _ _ _
  obtain ⟨h, hh⟩ : ∃ h, w.heap.size = h := ⟨_, rfl⟩
  rw [hh] at H0 ⊢
  by_cases hk : c.kind = 1
  · have hk1 : (c.kind != 1) = false := by simpa using hk
    have ha : addB c.re c.im x y = false := by simpa [cntB, hk] using hb
    clear hk hb
    go_enter Tryz.func57, Tryz.ntmps57
    go_wp2_with fail
    refine (gadd_no ha _).mono ?_
    rintro e w1 ⟨rfl, b1⟩
    have H2 : Hid (Set3 w h c p x y w1) := H0.out.later b1
    clear b1 H0 ha
    obtain ⟨k, hk⟩ : ∃ k, w1.heap.size = k := ⟨_, rfl⟩
    have hlt : h + 2 < k := by have := H2.out.size; omega
    obtain ⟨s0, s1, s2, s3, s4, s5, s6, s7, s8, s9⟩ := H2.out.2.2.2.ten
    obtain ⟨z0, z1, z2, z3, z4, z5, z6, z7, z8, z9⟩ := H2.out.2.2.2.tenf
    go_wp2_with fail
    exact cnt_no H2.out rfl rfl rfl rfl
  · have hk1 : (c.kind != 1) = true := by simpa using hk
    go_enter Tryz.func57, Tryz.ntmps57
    go_wp2_with fail
    exact bodyPost_ret (ret_cell2 rfl rfl rfl H0.out.2.2.2) rfl ⟨rfl, H0.out.1⟩

/-- The end of a call that is taken. -/
theorem cnt_end {fn : Func} {act : Act} {w w1 : World} {o : Obj} {h : Nat} {c d : Ce} {p q : Pl} {t n : Int} (H3 : Set3 w h c p t n w1) (HO : COwn (h + 3) w1 d q) (HN : Nils d q) (hr : fn.results = #[.cell 4 30, .tmp 5]) (h6 : act.tmps[4]? = some (.pointer (some ⟨h + 2, 0, none⟩))) (h7 : act.tmps[5]? = some (.int .i64 0)) (hd : act.defers = []) :
    bodyPost Tryz.prog fn (fun e w' => ∃ q, e = .returned (.tuple #[ceV d q, .int .i64 0]) ∧ COwn h w' d q ∧ Nils d q ∧ Below h w w') Exit.ret act (put10 w1 (h + 2) (.int .i64 d.kind) (.bool d.set) (.int .i64 d.time) (.int .i64 d.node) (.string d.val) (.int .i64 d.re) (.int .i64 d.im) (.slice q.eo d.ents.length q.ec) (.slice q.lo d.elems.length q.lc) (.slice q.so d.seen.length q.sc) |>.alloc o) :=
  bodyPost_ret (ret_cell2 hr h6 h7 ((H3.2.2.2.put10 _ _ _ _ _ _ _ _ _ _).alloc o)) hd ⟨q, rfl, ((HO.put10 (by omega) _ _ _ _ _ _ _ _ _ _).mono (by omega)).later ((Below.refl _ _).alloc (Nat.le_refl _) _), HN, (below_put10 H3.1 (by omega) _ _ _ _ _ _ _ _ _ _).alloc (by have := H3.size; simp; omega) _⟩

set_option maxHeartbeats 2000000 in
set_option maxRecDepth 100000 in
/-- Add takes it. -/
theorem cadd_yes (c : Ce) (p : Pl) (x y : Int) (w : World) (hr : CRow w c p) (hf : Fit c) (hb : cntB c x y = true) :
    Calls Tryz.prog 57 #[ceV c p, pv x y] w fun e w' => ∃ q, e = .returned (.tuple #[ceV (cntC c x y) q, .int .i64 0]) ∧ COwn w.heap.size w' (cntC c x y) q ∧ Nils (cntC c x y) q ∧ Below w.heap.size w w' := by
  have H0 : Hid (Set3 w w.heap.size c p x y (((w.alloc (.cells (ceL c p).toArray 30)).alloc (.cells #[.int .i64 x, .int .i64 y] 25)).alloc (.cells (ceL ce0 pl0).toArray 30))) := set3_new _ _ _ _ _ _ _ _
  obtain ⟨h, hh⟩ : ∃ h, w.heap.size = h := ⟨_, rfl⟩
  rw [hh] at H0 ⊢
  have HR : Hid (CRow w c p ∧ Fit c) := ⟨hr, hf⟩
  simp only [cntB, Bool.and_eq_true, decide_eq_true_eq] at hb
  obtain ⟨hk, ha⟩ := hb
  have hk1 : (c.kind != 1) = false := by simpa using hk
  clear hr hf hk
  obtain ⟨X, eX⟩ : ∃ X, X = c.re + x := ⟨_, rfl⟩
  obtain ⟨Y, eY⟩ : ∃ Y, Y = c.im + y := ⟨_, rfl⟩
  have C1 := gadd_yes X Y ha eX eY
  have ed : cntC c x y = cN c X Y := by rw [eX, eY]; rfl
  rw [ed]
  clear eX eY ed ha
  go_enter Tryz.func57, Tryz.ntmps57
  go_wp2_with fail
  refine (C1 _).mono ?_
  rintro e w1 ⟨rfl, b1⟩
  have H1 : Hid (Set3 w h c p x y w1) := H0.out.later b1
  clear b1 H0 C1
  obtain ⟨g, hg⟩ : ∃ g, w1.heap.size = g := ⟨_, rfl⟩
  have H2 : Hid (Set3 w h c p x y (w1.alloc (.cells #[.int .i64 X, .int .i64 Y] 25)) ∧ Has (w1.alloc (.cells #[.int .i64 X, .int .i64 Y] 25)) g [.int .i64 X, .int .i64 Y]) :=
    ⟨H1.out.later ((Below.refl _ _).alloc (Nat.le_refl _) _), hg ▸ has_new w1 [.int .i64 X, .int .i64 Y] _⟩
  have hlt : h < g := by have := H1.out.size; omega
  have hlt3 : h + 3 ≤ g := by have := H1.out.size; omega
  obtain ⟨t0, t1, t2, t3, t4, t5, t6, t7, t8, t9⟩ := H1.out.2.1.ten
  go_wp2_with fail
  refine (fcell_any c p _ (HR.out.1.later (hh.symm ▸ H2.out.1.1)) HR.out.2).mono ?_
  rintro e w2 ⟨q, rfl, o2, n2, b2⟩
  have H3 : Hid (Set3 w h c p x y w2 ∧ Has w2 g [.int .i64 X, .int .i64 Y]) := ⟨H2.out.1.later b2, H2.out.2.later b2⟩
  have HO : Hid (COwn (h + 3) w2 c q ∧ Nils c q) := ⟨o2.mono H2.out.1.size, n2⟩
  clear t0 t1 t2 t3 t4 t5 t6 t7 t8 t9 b2 o2 n2 H1 H2 hg
  obtain ⟨k, hk⟩ : ∃ k, w2.heap.size = k := ⟨_, rfl⟩
  have hgk : g < k := by have := H3.out.2.1; omega
  have hl2 : h + 2 < k := by omega
  have x0 := H3.out.2.at 0 rfl
  have x1 := H3.out.2.at 1 rfl
  obtain ⟨s0, s1, s2, s3, s4, s5, s6, s7, s8, s9⟩ := H3.out.1.2.2.2.ten
  obtain ⟨z0, z1, z2, z3, z4, z5, z6, z7, z8, z9⟩ := H3.out.1.2.2.2.tenf
  go_wp2_with fail
  exact cnt_end (d := cN c X Y) (q := q) H3.out.1 HO.out.1 HO.out.2 rfl rfl rfl rfl

end Go.Proofs.YtgkddimijmnpcaaGreatDoor

/-
  The document's own Count, by contracts; both, whatever comes.
-/
namespace Go.Proofs.YtgkddimijmnpcaaGreatDoor
open Go.RowKit
set_option linter.unusedVariables false
set_option linter.unusedSimpArgs false

set_option maxHeartbeats 1000000 in
set_option maxRecDepth 100000 in
/-- The document's Count refuses. -/
theorem rcount_no (c : Ce) (p : Pl) (x y : Int) (w : World) (hb : cntB c x y = false) :
    Calls Tryz.prog 72 #[ceV c p, pv x y] w fun e w' => e = .returned (.tuple #[ceV ce0 pl0, .int .i64 800]) ∧ Below w.heap.size w w' := by
  have H0 : Hid (Set3 w w.heap.size c p x y (((w.alloc (.cells (ceL c p).toArray 30)).alloc (.cells #[.int .i64 x, .int .i64 y] 25)).alloc (.cells (ceL ce0 pl0).toArray 30))) := set3_new _ _ _ _ _ _ _ _
  obtain ⟨h, hh⟩ : ∃ h, w.heap.size = h := ⟨_, rfl⟩
  rw [hh] at H0 ⊢
  by_cases hk : c.kind = 1
  · have hk1 : (c.kind != 1) = false := by simpa using hk
    have ha : addB c.re c.im x y = false := by simpa [cntB, hk] using hb
    clear hk hb
    go_enter Tryz.func72, Tryz.ntmps72
    go_wp2_with fail
    refine (radd_no ha _).mono ?_
    rintro e w1 ⟨rfl, b1⟩
    have H2 : Hid (Set3 w h c p x y w1) := H0.out.later b1
    clear b1 H0 ha
    obtain ⟨k, hk⟩ : ∃ k, w1.heap.size = k := ⟨_, rfl⟩
    have hlt : h + 2 < k := by have := H2.out.size; omega
    have hlt0 : h < k := by omega
    have t0 := H2.out.2.1.at 0 rfl
    obtain ⟨s0, s1, s2, s3, s4, s5, s6, s7, s8, s9⟩ := H2.out.2.2.2.ten
    obtain ⟨z0, z1, z2, z3, z4, z5, z6, z7, z8, z9⟩ := H2.out.2.2.2.tenf
    go_wp2_with fail
    exact cnt_no H2.out rfl rfl rfl rfl
  · have hk1 : (c.kind != 1) = true := by simpa using hk
    obtain ⟨X, Y, E, C1⟩ : ∃ X Y E : Int, ∀ w, Calls Tryz.prog 119 #[pv c.re c.im, pv x y] w fun e w' => e = .returned (.tuple #[pv X Y, .int .i64 E]) ∧ Below w.heap.size w w' := ⟨_, _, _, fun w => radd_any c.re c.im x y w⟩
    clear hk hb
    go_enter Tryz.func72, Tryz.ntmps72
    go_wp2_with fail
    refine (C1 _).mono ?_
    rintro e w1 ⟨rfl, b1⟩
    have H2 : Hid (Set3 w h c p x y w1) := H0.out.later b1
    clear b1 H0 C1
    obtain ⟨k, hk⟩ : ∃ k, w1.heap.size = k := ⟨_, rfl⟩
    have hlt : h + 2 < k := by have := H2.out.size; omega
    have hlt0 : h < k := by omega
    have t0 := H2.out.2.1.at 0 rfl
    obtain ⟨s0, s1, s2, s3, s4, s5, s6, s7, s8, s9⟩ := H2.out.2.2.2.ten
    obtain ⟨z0, z1, z2, z3, z4, z5, z6, z7, z8, z9⟩ := H2.out.2.2.2.tenf
    go_wp2_with fail
    exact cnt_no H2.out rfl rfl rfl rfl

theorem rcnt_end {fn : Func} {act : Act} {w W : World} {h : Nat} {d : Ce} {q : Pl} (H : RSt w h d q W) (hr : fn.results = #[.cell 4 30, .tmp 5]) (h6 : act.tmps[4]? = some (.pointer (some ⟨h + 2, 0, none⟩))) (h7 : act.tmps[5]? = some (.int .i64 0)) (hd : act.defers = []) :
    bodyPost Tryz.prog fn (fun e w' => ∃ q, e = .returned (.tuple #[ceV d q, .int .i64 0]) ∧ COwn h w' d q ∧ Below h w w') Exit.ret act (put10 W (h + 2) (.int .i64 d.kind) (.bool d.set) (.int .i64 d.time) (.int .i64 d.node) (.string d.val) (.int .i64 d.re) (.int .i64 d.im) (.slice q.eo d.ents.length q.ec) (.slice q.lo d.elems.length q.lc) (.slice q.so d.seen.length q.sc)) :=
  bodyPost_ret (ret_cell2 hr h6 h7 (H.2.1.put10 _ _ _ _ _ _ _ _ _ _)) hd ⟨q, rfl, (H.2.2.put10 (by omega) _ _ _ _ _ _ _ _ _ _).mono (by omega), below_put10 H.1 (by omega) _ _ _ _ _ _ _ _ _ _⟩

set_option maxHeartbeats 2000000 in
set_option maxRecDepth 100000 in
/-- The document's Count takes it. -/
theorem rcount_yes (c : Ce) (p : Pl) (x y : Int) (w : World) (hr : CRow w c p) (hf : Fit c) (hb : cntB c x y = true) :
    Calls Tryz.prog 72 #[ceV c p, pv x y] w fun e w' => ∃ q, e = .returned (.tuple #[ceV (cntC c x y) q, .int .i64 0]) ∧ COwn w.heap.size w' (cntC c x y) q ∧ Below w.heap.size w w' := by
  have H0 : Hid (Set3 w w.heap.size c p x y (((w.alloc (.cells (ceL c p).toArray 30)).alloc (.cells #[.int .i64 x, .int .i64 y] 25)).alloc (.cells (ceL ce0 pl0).toArray 30))) := set3_new _ _ _ _ _ _ _ _
  obtain ⟨h, hh⟩ : ∃ h, w.heap.size = h := ⟨_, rfl⟩
  rw [hh] at H0 ⊢
  have HR : Hid (CRow w c p ∧ Fit c) := ⟨hr, hf⟩
  simp only [cntB, Bool.and_eq_true, decide_eq_true_eq] at hb
  obtain ⟨hk, ha⟩ := hb
  have hk1 : (c.kind != 1) = false := by simpa using hk
  clear hr hf hk
  obtain ⟨X, eX⟩ : ∃ X, X = c.re + x := ⟨_, rfl⟩
  obtain ⟨Y, eY⟩ : ∃ Y, Y = c.im + y := ⟨_, rfl⟩
  have C1 := radd_yes X Y ha eX eY
  have ed : cntC c x y = cN c X Y := by rw [eX, eY]; rfl
  rw [ed]
  clear eX eY ed ha
  go_enter Tryz.func72, Tryz.ntmps72
  go_wp2_with fail
  refine (C1 _).mono ?_
  rintro e w1 ⟨rfl, b1⟩
  have H1 : Hid (Set3 w h c p x y w1) := H0.out.later b1
  clear b1 H0 C1
  obtain ⟨g, hg⟩ : ∃ g, w1.heap.size = g := ⟨_, rfl⟩
  have H2 : Hid (Set3 w h c p x y (w1.alloc (.cells #[.int .i64 X, .int .i64 Y] 25)) ∧ Has (w1.alloc (.cells #[.int .i64 X, .int .i64 Y] 25)) g [.int .i64 X, .int .i64 Y]) :=
    ⟨H1.out.later ((Below.refl _ _).alloc (Nat.le_refl _) _), hg ▸ has_new w1 [.int .i64 X, .int .i64 Y] _⟩
  have hlt : h < g := by have := H1.out.size; omega
  have hlt3 : h + 3 ≤ g := by have := H1.out.size; omega
  obtain ⟨t0, t1, t2, t3, t4, t5, t6, t7, t8, t9⟩ := H1.out.2.1.ten
  go_wp2_with fail
  refine (rcopy_any c p _ (HR.out.1.later (hh.symm ▸ H2.out.1.1)) HR.out.2).mono ?_
  rintro e w2 ⟨q, rfl, o2, b2⟩
  have H3 : Hid (Set3 w h c p x y w2 ∧ Has w2 g [.int .i64 X, .int .i64 Y]) := ⟨H2.out.1.later b2, H2.out.2.later b2⟩
  have HO2 : Hid (RSt w h c q w2) := ⟨H3.out.1.1, H3.out.1.2.2.2, o2.mono H2.out.1.size⟩
  clear t0 t1 t2 t3 t4 t5 t6 t7 t8 t9 b2 o2 H1 H2 hg
  obtain ⟨t0, t1, t2, t3, t4, t5, t6, t7, t8, t9⟩ := H3.out.1.2.1.ten
  obtain ⟨f0, f1, f2, f3, f4, f5, f6, f7, f8, f9⟩ := H3.out.1.2.1.tenf
  go_upto_region 5 with fail
  have H4 : Hid (Set3 w h c q x y (put10 w2 h (.int .i64 c.kind) (.bool c.set) (.int .i64 c.time) (.int .i64 c.node) (.string c.val) (.int .i64 c.re) (.int .i64 c.im) (.slice q.eo c.ents.length q.ec) (.slice q.lo c.elems.length q.lc) (.slice q.so c.seen.length q.sc))) := H3.out.1.copied (q := q)
  have HO : Hid (RSt w h c q (put10 w2 h (.int .i64 c.kind) (.bool c.set) (.int .i64 c.time) (.int .i64 c.node) (.string c.val) (.int .i64 c.re) (.int .i64 c.im) (.slice q.eo c.ents.length q.ec) (.slice q.lo c.elems.length q.lc) (.slice q.so c.seen.length q.sc))) := HO2.out.put (.int .i64 c.kind) (.bool c.set) (.int .i64 c.time) (.int .i64 c.node) (.string c.val) (.int .i64 c.re) (.int .i64 c.im) (.slice q.eo c.ents.length q.ec) (.slice q.lo c.elems.length q.lc) (.slice q.so c.seen.length q.sc)
  have HG : Hid (Has (put10 w2 h (.int .i64 c.kind) (.bool c.set) (.int .i64 c.time) (.int .i64 c.node) (.string c.val) (.int .i64 c.re) (.int .i64 c.im) (.slice q.eo c.ents.length q.ec) (.slice q.lo c.elems.length q.lc) (.slice q.so c.seen.length q.sc)) g [.int .i64 X, .int .i64 Y]) := by
    show Has _ _ _
    repeat apply Has.other (hk := by omega)
    exact H3.out.2
  dsimp only [put10] at H4 HO HG
  clear t0 t1 t2 t3 t4 t5 t6 t7 t8 t9 f0 f1 f2 f3 f4 f5 f6 f7 f8 f9 HO2 H3
  generalize hW : World.setCell _ (⟨h, 9, none⟩ : Addr) _ = w3 at H4 HO HG ⊢
  clear hW
  obtain ⟨t0, t1, t2, t3, t4, t5, t6, t7, t8, t9⟩ := H4.out.2.1.ten
  obtain ⟨f0, f1, f2, f3, f4, f5, f6, f7, f8, f9⟩ := H4.out.2.1.tenf
  have y0 := HG.out.at 0 rfl
  have y1 := HG.out.at 1 rfl
  obtain ⟨s0, s1, s2, s3, s4, s5, s6, s7, s8, s9⟩ := H4.out.2.2.2.ten
  obtain ⟨z0, z1, z2, z3, z4, z5, z6, z7, z8, z9⟩ := H4.out.2.2.2.tenf
  go_wp2_with fail
  exact rcnt_end (d := cN c X Y) (q := q) ((HO.out.set 5 _).set 6 _) rfl rfl rfl rfl

/-- What Add answers, whatever comes. -/
def ansN (c : Ce) (x y : Int) : Ce := if cntB c x y then cntC c x y else ce0
def ansM (c : Ce) (x y : Int) : Int := if cntB c x y then 0 else 800

theorem cadd_all (c : Ce) (p : Pl) (x y : Int) (w : World) (hr : CRow w c p) (hf : Fit c) :
    Calls Tryz.prog 57 #[ceV c p, pv x y] w fun e w' => ∃ q, e = .returned (.tuple #[ceV (ansN c x y) q, .int .i64 (ansM c x y)]) ∧ COwn w.heap.size w' (ansN c x y) q ∧ Below w.heap.size w w' := by
  unfold ansN ansM
  cases hb : cntB c x y with
  | true =>
    refine (cadd_yes c p x y w hr hf hb).mono ?_
    rintro e w1 ⟨q, he, o, _, b⟩
    exact ⟨q, he, o, b⟩
  | false =>
    refine (cadd_no c p x y w hb).mono ?_
    rintro e w1 ⟨he, b⟩
    exact ⟨pl0, he, own_none0 _ _, b⟩

theorem rcount_all (c : Ce) (p : Pl) (x y : Int) (w : World) (hr : CRow w c p) (hf : Fit c) :
    Calls Tryz.prog 72 #[ceV c p, pv x y] w fun e w' => ∃ q, e = .returned (.tuple #[ceV (ansN c x y) q, .int .i64 (ansM c x y)]) ∧ COwn w.heap.size w' (ansN c x y) q ∧ Below w.heap.size w w' := by
  unfold ansN ansM
  cases hb : cntB c x y with
  | true =>
    refine (rcount_yes c p x y w hr hf hb).mono ?_
    rintro e w1 ⟨q, he, o, b⟩
    exact ⟨q, he, o, b⟩
  | false =>
    refine (rcount_no c p x y w hb).mono ?_
    rintro e w1 ⟨he, b⟩
    exact ⟨pl0, he, own_none0 _ _, b⟩

theorem fit_cnt {c : Ce} {x y : Int} (h : Fit c) : Fit (ansN c x y) := by
  unfold ansN
  split
  · exact h
  · exact fit_none

end Go.Proofs.YtgkddimijmnpcaaGreatDoor

/-
  Package lww's Set, and the document's own, by contracts: stamps and values that may not be.
-/
namespace Go.Proofs.YtgkddimijmnpcaaGreatDoor
open Go.RowKit
set_option linter.unusedVariables false
set_option linter.unusedSimpArgs false

/-- May it be a writer's stamp? -/
def mayS (t n : Int) : Bool := decide (1 ≤ t ∧ t ≤ 16777215 ∧ 0 ≤ n ∧ n < 16)
/-- May it be written? -/
def setB (c : Ce) (t n : Int) (v : ByteArray) : Bool := decide (c.kind = 0) && mayS t n && decide (v.size ≤ 256)
/-- A cell with another stamp and value. -/
abbrev c4 (c : Ce) (b : Bool) (t n : Int) (v : ByteArray) : Ce := ⟨c.kind, b, t, n, v, c.re, c.im, c.ents, c.elems, c.seen⟩
/-- The cell once v was written at (t, n). -/
def setC (c : Ce) (t n : Int) (v : ByteArray) : Ce := if !c.set || lessB c.time c.node t n then c4 c true t n v else c

theorem lmay_any (t n : Int) (w : World) :
    Calls Tryz.prog 99 #[.agg #[.int .i64 t, .int .i64 n]] w fun e w' => e = .returned (.bool (mayS t n)) ∧ Below w.heap.size w w' := by
  go_enter Tryz.func99, Tryz.ntmps99
  go_wp2
  all_goals (go_ret; exact ⟨ret_bool (by unfold mayS; rw [Bool.eq_iff_iff]; simp; omega), (Below.refl _ _).alloc (Nat.le_refl _) _⟩)

theorem rstamp_any (t n : Int) (w : World) :
    Calls Tryz.prog 44 #[.agg #[.int .i64 t, .int .i64 n], .int .i64 16] w fun e w' => e = .returned (.bool (mayS t n)) ∧ Below w.heap.size w w' := by
  go_enter Tryz.func44, Tryz.ntmps44
  go_wp2
  all_goals (go_ret; exact ⟨ret_bool (by unfold mayS; rw [Bool.eq_iff_iff]; simp; omega), (Below.refl _ _).alloc (Nat.le_refl _) _⟩)

/-- The end of a call of Set that is refused. -/
theorem set_no {fn : Func} {act : Act} {w w2 : World} {h : Nat} {c : Ce} {p : Pl} {t n : Int} (H : Set3 w h c p t n w2) (hr : fn.results = #[.cell 6 30, .tmp 7]) (h6 : act.tmps[6]? = some (.pointer (some ⟨h + 2, 0, none⟩))) (h7 : act.tmps[7]? = some (.int .i64 700)) (hd : act.defers = []) :
    bodyPost Tryz.prog fn (fun e w' => e = .returned (.tuple #[ceV ce0 pl0, .int .i64 700]) ∧ Below h w w') Exit.ret act (put10 w2 (h + 2) (.int .i64 0) (.bool false) (.int .i64 0) (.int .i64 0) (.string ByteArray.empty) (.int .i64 0) (.int .i64 0) (.slice none 0 0) (.slice none 0 0) (.slice none 0 0)) :=
  bodyPost_ret (ret_cell2 hr h6 h7 (H.2.2.2.put10 _ _ _ _ _ _ _ _ _ _)) hd ⟨rfl, below_put10 H.1 (by omega) _ _ _ _ _ _ _ _ _ _⟩

set_option maxHeartbeats 1000000 in
set_option maxRecDepth 100000 in
/-- Set refuses. -/
theorem lset_no (c : Ce) (p : Pl) (t n : Int) (v : ByteArray) (w : World) (hb : setB c t n v = false) (hv : v.size ≤ maxLen) :
    Calls Tryz.prog 55 #[ceV c p, .agg #[.int .i64 t, .int .i64 n], .string v] w fun e w' => e = .returned (.tuple #[ceV ce0 pl0, .int .i64 700]) ∧ Below w.heap.size w w' := by
  have H0 : Hid (Set3 w w.heap.size c p t n (((w.alloc (.cells (ceL c p).toArray 30)).alloc (.cells #[.int .i64 t, .int .i64 n] 23)).alloc (.cells (ceL ce0 pl0).toArray 30))) := set3_new _ _ _ _ _ _ _ _
  obtain ⟨h, hh⟩ : ∃ h, w.heap.size = h := ⟨_, rfl⟩
  rw [hh] at H0 ⊢
  unfold maxLen at hv
  by_cases hk : c.kind = 0
  · have hk1 : (c.kind != 0) = false := by simpa using hk
    have HK : Hid (c.kind = 0) := hk
    clear hk
    go_enter Tryz.func55, Tryz.ntmps55
    go_wp2_with fail
    refine (lmay_any t n _).mono ?_
    rintro e w1 ⟨rfl, b1⟩
    have H1 : Hid (Set3 w h c p t n w1) := H0.out.later b1
    clear b1 H0
    obtain ⟨s0, s1, s2, s3, s4, s5, s6, s7, s8, s9⟩ := H1.out.2.2.2.ten
    obtain ⟨z0, z1, z2, z3, z4, z5, z6, z7, z8, z9⟩ := H1.out.2.2.2.tenf
    cases hm : mayS t n
    · go_wp2_with fail
      exact set_no H1.out rfl rfl rfl rfl
    · have hz : decide ((256 : Int) < (v.size : Int)) = true := by
        simp [setB, HK.out, hm] at hb
        simp; omega
      go_wp2_with fail
      exact set_no H1.out rfl rfl rfl rfl
  · have hk1 : (c.kind != 0) = true := by simpa using hk
    go_enter Tryz.func55, Tryz.ntmps55
    go_wp2_with fail
    exact bodyPost_ret (ret_cell2 rfl rfl rfl H0.out.2.2.2) rfl ⟨rfl, H0.out.1⟩

theorem Set4.s1 {w1 w2 : World} {k : Nat} {c : Ce} {b : Bool} {t n : Int} {v : ByteArray} {q : Pl} (H : Set4 w1 k (c4 c b t n v) q w2) : Set4 w1 k (c4 c true t n v) q (w2.setCell ⟨k, 1, none⟩ (.bool true)) := ⟨H.1.setCell (p := ⟨k, 1, none⟩) (Nat.le_refl _) _, H.2.put 1 _⟩
theorem Set4.s2 {w1 w2 : World} {k : Nat} {c : Ce} {b : Bool} {t n : Int} {v : ByteArray} {q : Pl} (H : Set4 w1 k (c4 c b t n v) q w2) (t' n' : Int) : Set4 w1 k (c4 c b t' n' v) q ((w2.setCell ⟨k, 2, none⟩ (.int .i64 t')).setCell ⟨k, 3, none⟩ (.int .i64 n')) := ⟨(H.1.setCell (p := ⟨k, 2, none⟩) (Nat.le_refl _) _).setCell (p := ⟨k, 3, none⟩) (Nat.le_refl _) _, (H.2.put 2 _).put 3 _⟩
theorem Set4.s3 {w1 w2 : World} {k : Nat} {c : Ce} {b : Bool} {t n : Int} {v : ByteArray} {q : Pl} (H : Set4 w1 k (c4 c b t n v) q w2) (v' : ByteArray) : Set4 w1 k (c4 c b t n v') q (w2.setCell ⟨k, 4, none⟩ (.string v')) := ⟨H.1.setCell (p := ⟨k, 4, none⟩) (Nat.le_refl _) _, H.2.put 4 _⟩

/-- The end of a call of Set. -/
theorem set_end {fn : Func} {act : Act} {w w1 w2 : World} {h k : Nat} {c d : Ce} {p q : Pl} {t n : Int} (H3 : Set3 w h c p t n w1) (hk : w1.heap.size = k) (HO : COwn (h + 3) w1 d q) (HN : Nils d q) (H : Below k w1 w2) (hr : fn.results = #[.cell 6 30, .tmp 7]) (h6 : act.tmps[6]? = some (.pointer (some ⟨h + 2, 0, none⟩))) (h7 : act.tmps[7]? = some (.int .i64 0)) (hd : act.defers = []) :
    bodyPost Tryz.prog fn (fun e w' => ∃ q, e = .returned (.tuple #[ceV d q, .int .i64 0]) ∧ COwn h w' d q ∧ Nils d q ∧ Below h w w') Exit.ret act (put10 w2 (h + 2) (.int .i64 d.kind) (.bool d.set) (.int .i64 d.time) (.int .i64 d.node) (.string d.val) (.int .i64 d.re) (.int .i64 d.im) (.slice q.eo d.ents.length q.ec) (.slice q.lo d.elems.length q.lc) (.slice q.so d.seen.length q.sc)) := by
  subst hk
  have H5 := H3.later H
  exact bodyPost_ret (ret_cell2 hr h6 h7 (H5.2.2.2.put10 _ _ _ _ _ _ _ _ _ _)) hd ⟨q, rfl, ((HO.later H).put10 (by omega) _ _ _ _ _ _ _ _ _ _).mono (by omega), HN, below_put10 H5.1 (by omega) _ _ _ _ _ _ _ _ _ _⟩

set_option maxHeartbeats 4000000 in
set_option maxRecDepth 100000 in
theorem lset_keep (c : Ce) (p : Pl) (t n : Int) (v : ByteArray) (w : World) (hr : CRow w c p) (hf : Fit c) (hb : setB c t n v = true) (hs : c.set = true) (hl : lessB c.time c.node t n = false) :
    Calls Tryz.prog 55 #[ceV c p, .agg #[.int .i64 t, .int .i64 n], .string v] w fun e w' => ∃ q, e = .returned (.tuple #[ceV (c) q, .int .i64 0]) ∧ COwn w.heap.size w' (c) q ∧ Nils (c) q ∧ Below w.heap.size w w' := by
  have H0 : Hid (Set3 w w.heap.size c p t n (((w.alloc (.cells (ceL c p).toArray 30)).alloc (.cells #[.int .i64 t, .int .i64 n] 23)).alloc (.cells (ceL ce0 pl0).toArray 30))) := set3_new _ _ _ _ _ _ _ _
  obtain ⟨h, hh⟩ : ∃ h, w.heap.size = h := ⟨_, rfl⟩
  rw [hh] at H0 ⊢
  have HR : Hid (CRow w c p ∧ Fit c) := ⟨hr, hf⟩
  simp only [setB, Bool.and_eq_true, decide_eq_true_eq] at hb
  obtain ⟨⟨hk, hm⟩, hv⟩ := hb
  have hk1 : (c.kind != 0) = false := by simpa using hk
  have hz : decide ((256 : Int) < (v.size : Int)) = false := by simp; omega
  have HS : Hid (c.set = true) := hs
  clear hs
  clear hr hf hk
  go_enter Tryz.func55, Tryz.ntmps55
  go_wp2_with fail
  refine (lmay_any t n _).mono ?_
  rintro e w1 ⟨rfl, b1⟩
  have H1 : Hid (Set3 w h c p t n w1) := H0.out.later b1
  clear b1 H0
  obtain ⟨t0, t1, t2, t3, t4, t5, t6, t7, t8, t9⟩ := H1.out.2.1.ten
  go_wp2_with fail
  refine (fcell_any c p _ (HR.out.1.later (hh.symm ▸ H1.out.1)) HR.out.2).mono ?_
  rintro e w2 ⟨q, rfl, o2, n2, b2⟩
  have H2 : Hid (Set3 w h c p t n w2) := H1.out.later b2
  have HO : Hid (COwn (h + 3) w2 c q ∧ Nils c q) := ⟨o2.mono H1.out.size, n2⟩
  clear t0 t1 t2 t3 t4 t5 t6 t7 t8 t9 b2 o2 n2 H1
  obtain ⟨k, hk⟩ : ∃ k, w2.heap.size = k := ⟨_, rfl⟩
  have H4 : Hid (Set4 w2 k c q (w2.alloc (.cells (ceL c q).toArray 30))) := set4_new hk c q _
  have hlt : h + 3 ≤ k := by have := H2.out.size; omega
  have x1 := H2.out.2.1.at 1 rfl
  have x2 := H2.out.2.1.at 2 rfl
  have x3 := H2.out.2.1.at 3 rfl
  have y0 := H2.out.2.2.1.at 0 rfl
  have y1 := H2.out.2.2.1.at 1 rfl
  have hl0 : h < k := by omega
  have hl1 : h + 1 < k := by omega
  have hl2 : h + 2 < k := by omega
  rw [HS.out] at x1
  go_wp2_with fail
  refine (less_any c.time c.node t n _).mono ?_
  rintro e w3 ⟨rfl, b3⟩
  have H5 : Hid (Set4 w2 k c q w3) := H4.out.later b3
  clear b3 H4
  obtain ⟨t0, t1, t2, t3, t4, t5, t6, t7, t8, t9⟩ := H5.out.2.ten
  obtain ⟨s0, s1, s2, s3, s4, s5, s6, s7, s8, s9⟩ := (H2.out.later (hk.symm ▸ H5.out.1)).2.2.2.ten
  obtain ⟨z0, z1, z2, z3, z4, z5, z6, z7, z8, z9⟩ := (H2.out.later (hk.symm ▸ H5.out.1)).2.2.2.tenf
  go_wp2_with fail
  exact set_end (d := c) (q := q) H2.out hk HO.out.1 HO.out.2 H5.out.1 rfl rfl rfl rfl

end Go.Proofs.YtgkddimijmnpcaaGreatDoor

/-
  Package lww's Set where the write is taken: its three stores come in any order.
-/
namespace Go.Proofs.YtgkddimijmnpcaaGreatDoor
open Go.RowKit
set_option linter.unusedVariables false
set_option linter.unusedSimpArgs false

/-- What the region of the three stores needs of the stamp. -/
def Held5 (h : Nat) (t n : Int) (w2 : World) : Prop := w2.cell? ⟨h + 1, 0, none⟩ = some (.int .i64 t) ∧ w2.cell? ⟨h + 1, 1, none⟩ = some (.int .i64 n)

theorem held5_of {w w1 w2 : World} {h k : Nat} {c d : Ce} {p q : Pl} {t n : Int} (H3 : Set3 w h c p t n w1) (hk : w1.heap.size = k) (H : Set4 w1 k d q w2) : Held5 h t n w2 := by
  subst hk
  exact ((H3.later H.1).2.2.1).two


set_option maxHeartbeats 4000000 in
set_option maxRecDepth 100000 in
theorem lset_less (c : Ce) (p : Pl) (t n : Int) (v : ByteArray) (w : World) (hr : CRow w c p) (hf : Fit c) (hb : setB c t n v = true) (hs : c.set = true) (hl : lessB c.time c.node t n = true) :
    Calls Tryz.prog 55 #[ceV c p, .agg #[.int .i64 t, .int .i64 n], .string v] w fun e w' => ∃ q, e = .returned (.tuple #[ceV (c4 c true t n v) q, .int .i64 0]) ∧ COwn w.heap.size w' (c4 c true t n v) q ∧ Nils (c4 c true t n v) q ∧ Below w.heap.size w w' := by
  have H0 : Hid (Set3 w w.heap.size c p t n (((w.alloc (.cells (ceL c p).toArray 30)).alloc (.cells #[.int .i64 t, .int .i64 n] 23)).alloc (.cells (ceL ce0 pl0).toArray 30))) := set3_new _ _ _ _ _ _ _ _
  obtain ⟨h, hh⟩ : ∃ h, w.heap.size = h := ⟨_, rfl⟩
  rw [hh] at H0 ⊢
  have HR : Hid (CRow w c p ∧ Fit c) := ⟨hr, hf⟩
  simp only [setB, Bool.and_eq_true, decide_eq_true_eq] at hb
  obtain ⟨⟨hk, hm⟩, hv⟩ := hb
  have hk1 : (c.kind != 0) = false := by simpa using hk
  have hz : decide ((256 : Int) < (v.size : Int)) = false := by simp; omega
  have HS : Hid (c.set = true) := hs
  clear hs
  clear hr hf hk
  go_enter Tryz.func55, Tryz.ntmps55
  go_wp2_with fail
  refine (lmay_any t n _).mono ?_
  rintro e w1 ⟨rfl, b1⟩
  have H1 : Hid (Set3 w h c p t n w1) := H0.out.later b1
  clear b1 H0
  obtain ⟨t0, t1, t2, t3, t4, t5, t6, t7, t8, t9⟩ := H1.out.2.1.ten
  go_wp2_with fail
  refine (fcell_any c p _ (HR.out.1.later (hh.symm ▸ H1.out.1)) HR.out.2).mono ?_
  rintro e w2 ⟨q, rfl, o2, n2, b2⟩
  have H2 : Hid (Set3 w h c p t n w2) := H1.out.later b2
  have HO : Hid (COwn (h + 3) w2 c q ∧ Nils c q) := ⟨o2.mono H1.out.size, n2⟩
  clear t0 t1 t2 t3 t4 t5 t6 t7 t8 t9 b2 o2 n2 H1
  obtain ⟨k, hk⟩ : ∃ k, w2.heap.size = k := ⟨_, rfl⟩
  have H4 : Hid (Set4 w2 k c q (w2.alloc (.cells (ceL c q).toArray 30))) := set4_new hk c q _
  have hlt : h + 3 ≤ k := by have := H2.out.size; omega
  have x1 := H2.out.2.1.at 1 rfl
  have x2 := H2.out.2.1.at 2 rfl
  have x3 := H2.out.2.1.at 3 rfl
  have y0 := H2.out.2.2.1.at 0 rfl
  have y1 := H2.out.2.2.1.at 1 rfl
  have hl0 : h < k := by omega
  have hl1 : h + 1 < k := by omega
  have hl2 : h + 2 < k := by omega
  rw [HS.out] at x1
  go_wp2_with fail
  refine (less_any c.time c.node t n _).mono ?_
  rintro e w3 ⟨rfl, b3⟩
  have H5 : Hid (Set4 w2 k c q w3) := H4.out.later b3
  clear b3 H4
  have G0 : Hid (Set4 w2 k (c4 c c.set c.time c.node c.val) q w3.drew) := H5.out.later (Below.refl _ _).drew
  have hHeld0 := held5_of H2.out hk G0.out
  go_wp2_with fail
  refine wp_region_held_drew (S := Held5 h t n) (by kernel_rfl) hHeld0 (fun hHeld => ?_)
  clear hHeld0
  refine take_at 0 34 (v := .agg #[.int .i64 t, .int .i64 n]) rfl (by kernel_rfl) (by kernel_rfl) (by kernel_rfl) (fun _ _ _ h => h) rfl (by rfl) (fun w hSw => ?hy) hHeld ?_
  case hy =>
    obtain ⟨e0, e1⟩ := hSw
    go_simp
  simp only [List.set_cons_zero, List.set_cons_succ]
  refine take_at 1 35 (v := .string v) rfl (by kernel_rfl) (by kernel_rfl) (by kernel_rfl) (fun _ _ _ h => h) rfl (by rfl) (fun w hSw => ?hy) hHeld ?_
  case hy =>
    obtain ⟨e0, e1⟩ := hSw
    go_simp
  simp only [List.set_cons_zero, List.set_cons_succ]
  refine take_at 3 37 (v := .pointer (some ⟨k, 1, none⟩)) rfl (by kernel_rfl) (by kernel_rfl) (by kernel_rfl) (fun _ _ _ h => h) rfl (by rfl) (fun w hSw => ?hy) hHeld ?_
  case hy =>
    obtain ⟨e0, e1⟩ := hSw
    go_simp
  simp only [List.set_cons_zero, List.set_cons_succ]
  refine wpAnyH_ready (rs := [2]) (by kernel_rfl) (by simp) ?_
  refine AllReadyH.cons rfl (fun K hK => ?_) AllReadyH.nil
  go_simp
  refine (clone_any v _ (by omega)).mono ?_
  rintro e v1 ⟨rfl, b3⟩
  have G1 : Hid (Set4 w2 k (c4 c c.set c.time c.node c.val) q v1) := G0.out.later b3
  clear b3
  go_wp2_with fail
  refine hK.out _ _ (held5_of H2.out hk G1.out) (fun hHeld => ?_)
  clear hK K
  try simp only [Act.put, List.setIfInBounds_toArray, List.set_cons_zero, List.set_cons_succ]
  clear G0
  refine wpAnyH_ready (rs := [4]) (by kernel_rfl) (by simp) ?_
  refine AllReadyH.cons rfl (fun K hK => ?_) AllReadyH.nil
  have a1 := G1.out.2.at 1 rfl
  have f1 := G1.out.2.free 1 rfl
  go_simp
  have G2 : Hid (Set4 w2 k (c4 c true c.time c.node c.val) q (v1.setCell ⟨k, 1, none⟩ (.bool true))) := G1.out.s1
  refine hK.out _ _ (held5_of H2.out hk G2.out) (fun hHeld => ?_)
  clear hK K
  try simp only [Act.put, List.setIfInBounds_toArray, List.set_cons_zero, List.set_cons_succ]
  clear G1 a1 f1
  refine take_at 5 38 (v := .pointer (some ⟨k, 2, none⟩)) rfl (by kernel_rfl) (by kernel_rfl) (by kernel_rfl) (fun _ _ _ h => h) rfl (by rfl) (fun w hSw => ?hy) hHeld ?_
  case hy =>
    obtain ⟨e0, e1⟩ := hSw
    go_simp
  simp only [List.set_cons_zero, List.set_cons_succ]
  refine wpAnyH_ready (rs := [6]) (by kernel_rfl) (by simp) ?_
  refine AllReadyH.cons rfl (fun K hK => ?_) AllReadyH.nil
  have a1 := G2.out.2.at 2 rfl
  have f1 := G2.out.2.free 2 rfl
  have a2 := G2.out.2.at 3 rfl
  have f2 := G2.out.2.free 3 rfl
  go_simp
  have G3 : Hid (Set4 w2 k (c4 c true t n c.val) q (((v1.setCell ⟨k, 1, none⟩ (.bool true)).setCell ⟨k, 2, none⟩ (.int .i64 t)).setCell ⟨k, 3, none⟩ (.int .i64 n))) := G2.out.s2 t n
  refine hK.out _ _ (held5_of H2.out hk G3.out) (fun hHeld => ?_)
  clear hK K
  try simp only [Act.put, List.setIfInBounds_toArray, List.set_cons_zero, List.set_cons_succ]
  clear G2 a1 f1 a2 f2
  refine take_at 7 39 (v := .pointer (some ⟨k, 4, none⟩)) rfl (by kernel_rfl) (by kernel_rfl) (by kernel_rfl) (fun _ _ _ h => h) rfl (by rfl) (fun w hSw => ?hy) hHeld ?_
  case hy =>
    obtain ⟨e0, e1⟩ := hSw
    go_simp
  simp only [List.set_cons_zero, List.set_cons_succ]
  refine wpAnyH_ready (rs := [8]) (by kernel_rfl) (by simp) ?_
  refine AllReadyH.cons rfl (fun K hK => ?_) AllReadyH.nil
  have a1 := G3.out.2.at 4 rfl
  have f1 := G3.out.2.free 4 rfl
  go_simp
  have G4 : Hid (Set4 w2 k (c4 c true t n v) q ((((v1.setCell ⟨k, 1, none⟩ (.bool true)).setCell ⟨k, 2, none⟩ (.int .i64 t)).setCell ⟨k, 3, none⟩ (.int .i64 n)).setCell ⟨k, 4, none⟩ (.string v))) := G3.out.s3 v
  refine hK.out _ _ (held5_of H2.out hk G4.out) (fun hHeld => ?_)
  clear hK K
  try simp only [Act.put, List.setIfInBounds_toArray, List.set_cons_zero, List.set_cons_succ]
  clear G3 a1 f1
  refine wpAnyH_done (by kernel_rfl) ?_ _
  generalize hW : ((((v1.setCell ⟨k, 1, none⟩ (.bool true)).setCell ⟨k, 2, none⟩ (.int .i64 t)).setCell ⟨k, 3, none⟩ (.int .i64 n)).setCell ⟨k, 4, none⟩ (.string v)) = v4 at G4 ⊢
  clear hW hHeld
  obtain ⟨t0, t1, t2, t3, t4, t5, t6, t7, t8, t9⟩ := G4.out.2.ten
  obtain ⟨s0, s1, s2, s3, s4, s5, s6, s7, s8, s9⟩ := (H2.out.later (hk.symm ▸ G4.out.1)).2.2.2.ten
  obtain ⟨z0, z1, z2, z3, z4, z5, z6, z7, z8, z9⟩ := (H2.out.later (hk.symm ▸ G4.out.1)).2.2.2.tenf
  go_wp2_with fail
  exact set_end (d := c4 c true t n v) (q := q) H2.out hk HO.out.1 HO.out.2 G4.out.1 rfl rfl rfl rfl

set_option maxHeartbeats 4000000 in
set_option maxRecDepth 100000 in
theorem lset_new (c : Ce) (p : Pl) (t n : Int) (v : ByteArray) (w : World) (hr : CRow w c p) (hf : Fit c) (hb : setB c t n v = true) (hs : c.set = false) :
    Calls Tryz.prog 55 #[ceV c p, .agg #[.int .i64 t, .int .i64 n], .string v] w fun e w' => ∃ q, e = .returned (.tuple #[ceV (c4 c true t n v) q, .int .i64 0]) ∧ COwn w.heap.size w' (c4 c true t n v) q ∧ Nils (c4 c true t n v) q ∧ Below w.heap.size w w' := by
  have H0 : Hid (Set3 w w.heap.size c p t n (((w.alloc (.cells (ceL c p).toArray 30)).alloc (.cells #[.int .i64 t, .int .i64 n] 23)).alloc (.cells (ceL ce0 pl0).toArray 30))) := set3_new _ _ _ _ _ _ _ _
  obtain ⟨h, hh⟩ : ∃ h, w.heap.size = h := ⟨_, rfl⟩
  rw [hh] at H0 ⊢
  have HR : Hid (CRow w c p ∧ Fit c) := ⟨hr, hf⟩
  simp only [setB, Bool.and_eq_true, decide_eq_true_eq] at hb
  obtain ⟨⟨hk, hm⟩, hv⟩ := hb
  have hk1 : (c.kind != 0) = false := by simpa using hk
  have hz : decide ((256 : Int) < (v.size : Int)) = false := by simp; omega
  have HS : Hid (c.set = false) := hs
  clear hs
  clear hr hf hk
  go_enter Tryz.func55, Tryz.ntmps55
  go_wp2_with fail
  refine (lmay_any t n _).mono ?_
  rintro e w1 ⟨rfl, b1⟩
  have H1 : Hid (Set3 w h c p t n w1) := H0.out.later b1
  clear b1 H0
  obtain ⟨t0, t1, t2, t3, t4, t5, t6, t7, t8, t9⟩ := H1.out.2.1.ten
  go_wp2_with fail
  refine (fcell_any c p _ (HR.out.1.later (hh.symm ▸ H1.out.1)) HR.out.2).mono ?_
  rintro e w2 ⟨q, rfl, o2, n2, b2⟩
  have H2 : Hid (Set3 w h c p t n w2) := H1.out.later b2
  have HO : Hid (COwn (h + 3) w2 c q ∧ Nils c q) := ⟨o2.mono H1.out.size, n2⟩
  clear t0 t1 t2 t3 t4 t5 t6 t7 t8 t9 b2 o2 n2 H1
  obtain ⟨k, hk⟩ : ∃ k, w2.heap.size = k := ⟨_, rfl⟩
  have H4 : Hid (Set4 w2 k c q (w2.alloc (.cells (ceL c q).toArray 30))) := set4_new hk c q _
  have hlt : h + 3 ≤ k := by have := H2.out.size; omega
  have x1 := H2.out.2.1.at 1 rfl
  have x2 := H2.out.2.1.at 2 rfl
  have x3 := H2.out.2.1.at 3 rfl
  have y0 := H2.out.2.2.1.at 0 rfl
  have y1 := H2.out.2.2.1.at 1 rfl
  have hl0 : h < k := by omega
  have hl1 : h + 1 < k := by omega
  have hl2 : h + 2 < k := by omega
  rw [HS.out] at x1
  have G0 : Hid (Set4 w2 k (c4 c c.set c.time c.node c.val) q (w2.alloc (.cells (ceL c q).toArray 30)).drew) := H4.out.later (Below.refl _ _).drew
  have hHeld0 := held5_of H2.out hk G0.out
  go_wp2_with fail
  refine wp_region_held_drew (S := Held5 h t n) (by kernel_rfl) hHeld0 (fun hHeld => ?_)
  clear hHeld0
  refine take_at 0 34 (v := .agg #[.int .i64 t, .int .i64 n]) rfl (by kernel_rfl) (by kernel_rfl) (by kernel_rfl) (fun _ _ _ h => h) rfl (by rfl) (fun w hSw => ?hy) hHeld ?_
  case hy =>
    obtain ⟨e0, e1⟩ := hSw
    go_simp
  simp only [List.set_cons_zero, List.set_cons_succ]
  refine take_at 1 35 (v := .string v) rfl (by kernel_rfl) (by kernel_rfl) (by kernel_rfl) (fun _ _ _ h => h) rfl (by rfl) (fun w hSw => ?hy) hHeld ?_
  case hy =>
    obtain ⟨e0, e1⟩ := hSw
    go_simp
  simp only [List.set_cons_zero, List.set_cons_succ]
  refine take_at 3 37 (v := .pointer (some ⟨k, 1, none⟩)) rfl (by kernel_rfl) (by kernel_rfl) (by kernel_rfl) (fun _ _ _ h => h) rfl (by rfl) (fun w hSw => ?hy) hHeld ?_
  case hy =>
    obtain ⟨e0, e1⟩ := hSw
    go_simp
  simp only [List.set_cons_zero, List.set_cons_succ]
  refine wpAnyH_ready (rs := [2]) (by kernel_rfl) (by simp) ?_
  refine AllReadyH.cons rfl (fun K hK => ?_) AllReadyH.nil
  go_simp
  refine (clone_any v _ (by omega)).mono ?_
  rintro e v1 ⟨rfl, b3⟩
  have G1 : Hid (Set4 w2 k (c4 c c.set c.time c.node c.val) q v1) := G0.out.later b3
  clear b3
  go_wp2_with fail
  refine hK.out _ _ (held5_of H2.out hk G1.out) (fun hHeld => ?_)
  clear hK K
  try simp only [Act.put, List.setIfInBounds_toArray, List.set_cons_zero, List.set_cons_succ]
  clear G0
  refine wpAnyH_ready (rs := [4]) (by kernel_rfl) (by simp) ?_
  refine AllReadyH.cons rfl (fun K hK => ?_) AllReadyH.nil
  have a1 := G1.out.2.at 1 rfl
  have f1 := G1.out.2.free 1 rfl
  go_simp
  have G2 : Hid (Set4 w2 k (c4 c true c.time c.node c.val) q (v1.setCell ⟨k, 1, none⟩ (.bool true))) := G1.out.s1
  refine hK.out _ _ (held5_of H2.out hk G2.out) (fun hHeld => ?_)
  clear hK K
  try simp only [Act.put, List.setIfInBounds_toArray, List.set_cons_zero, List.set_cons_succ]
  clear G1 a1 f1
  refine take_at 5 38 (v := .pointer (some ⟨k, 2, none⟩)) rfl (by kernel_rfl) (by kernel_rfl) (by kernel_rfl) (fun _ _ _ h => h) rfl (by rfl) (fun w hSw => ?hy) hHeld ?_
  case hy =>
    obtain ⟨e0, e1⟩ := hSw
    go_simp
  simp only [List.set_cons_zero, List.set_cons_succ]
  refine wpAnyH_ready (rs := [6]) (by kernel_rfl) (by simp) ?_
  refine AllReadyH.cons rfl (fun K hK => ?_) AllReadyH.nil
  have a1 := G2.out.2.at 2 rfl
  have f1 := G2.out.2.free 2 rfl
  have a2 := G2.out.2.at 3 rfl
  have f2 := G2.out.2.free 3 rfl
  go_simp
  have G3 : Hid (Set4 w2 k (c4 c true t n c.val) q (((v1.setCell ⟨k, 1, none⟩ (.bool true)).setCell ⟨k, 2, none⟩ (.int .i64 t)).setCell ⟨k, 3, none⟩ (.int .i64 n))) := G2.out.s2 t n
  refine hK.out _ _ (held5_of H2.out hk G3.out) (fun hHeld => ?_)
  clear hK K
  try simp only [Act.put, List.setIfInBounds_toArray, List.set_cons_zero, List.set_cons_succ]
  clear G2 a1 f1 a2 f2
  refine take_at 7 39 (v := .pointer (some ⟨k, 4, none⟩)) rfl (by kernel_rfl) (by kernel_rfl) (by kernel_rfl) (fun _ _ _ h => h) rfl (by rfl) (fun w hSw => ?hy) hHeld ?_
  case hy =>
    obtain ⟨e0, e1⟩ := hSw
    go_simp
  simp only [List.set_cons_zero, List.set_cons_succ]
  refine wpAnyH_ready (rs := [8]) (by kernel_rfl) (by simp) ?_
  refine AllReadyH.cons rfl (fun K hK => ?_) AllReadyH.nil
  have a1 := G3.out.2.at 4 rfl
  have f1 := G3.out.2.free 4 rfl
  go_simp
  have G4 : Hid (Set4 w2 k (c4 c true t n v) q ((((v1.setCell ⟨k, 1, none⟩ (.bool true)).setCell ⟨k, 2, none⟩ (.int .i64 t)).setCell ⟨k, 3, none⟩ (.int .i64 n)).setCell ⟨k, 4, none⟩ (.string v))) := G3.out.s3 v
  refine hK.out _ _ (held5_of H2.out hk G4.out) (fun hHeld => ?_)
  clear hK K
  try simp only [Act.put, List.setIfInBounds_toArray, List.set_cons_zero, List.set_cons_succ]
  clear G3 a1 f1
  refine wpAnyH_done (by kernel_rfl) ?_ _
  generalize hW : ((((v1.setCell ⟨k, 1, none⟩ (.bool true)).setCell ⟨k, 2, none⟩ (.int .i64 t)).setCell ⟨k, 3, none⟩ (.int .i64 n)).setCell ⟨k, 4, none⟩ (.string v)) = v4 at G4 ⊢
  clear hW hHeld
  obtain ⟨t0, t1, t2, t3, t4, t5, t6, t7, t8, t9⟩ := G4.out.2.ten
  obtain ⟨s0, s1, s2, s3, s4, s5, s6, s7, s8, s9⟩ := (H2.out.later (hk.symm ▸ G4.out.1)).2.2.2.ten
  obtain ⟨z0, z1, z2, z3, z4, z5, z6, z7, z8, z9⟩ := (H2.out.later (hk.symm ▸ G4.out.1)).2.2.2.tenf
  go_wp2_with fail
  exact set_end (d := c4 c true t n v) (q := q) H2.out hk HO.out.1 HO.out.2 G4.out.1 rfl rfl rfl rfl

end Go.Proofs.YtgkddimijmnpcaaGreatDoor

