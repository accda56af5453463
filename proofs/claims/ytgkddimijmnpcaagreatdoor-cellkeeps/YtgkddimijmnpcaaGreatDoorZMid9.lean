/-
  The laws' own SpoilCell and SpoilDots once more, with a frame on either side: of what lay there only blocks from B on and below T may have turned.
-/
import Derived.Test.YtgkddimijmnpcaaGreatDoorZPack1
import Derived.Shelf.Abstract
namespace Go.Proofs.YtgkddimijmnpcaaGreatDoor
open Go.RowKit Go.Shelf
set_option linter.unusedVariables false
set_option linter.unusedSimpArgs false

/-- Of what lay in w only blocks from B on and below T may have turned. -/
structure Mid (B T : Nat) (w w' : World) : Prop where
  os : w'.os = w.os
  tape : w'.tape = w.tape
  output : w'.output = w.output
  size : w.heap.size ≤ w'.heap.size
  block : ∀ k, k < w.heap.size → (k < B ∨ T ≤ k) → w'.heap[k]? = w.heap[k]?

theorem Mid.refl (B T : Nat) (w : World) : Mid B T w w := ⟨rfl, rfl, rfl, Nat.le_refl _, fun _ _ _ => rfl⟩
theorem Mid.later {B T : Nat} {w w1 w2 : World} (h : Mid B T w w1) (hb : Below w1.heap.size w1 w2) : Mid B T w w2 :=
  ⟨hb.os.trans h.os, hb.tape.trans h.tape, hb.output.trans h.output, Nat.le_trans h.size hb.size, fun k hk hn => (hb.block k (Nat.lt_of_lt_of_le hk h.size)).trans (h.block k hk hn)⟩
theorem Mid.trans {B T : Nat} {w w1 w2 : World} (h : Mid B T w w1) (k : Mid B T w1 w2) : Mid B T w w2 :=
  ⟨k.os.trans h.os, k.tape.trans h.tape, k.output.trans h.output, Nat.le_trans h.size k.size, fun i hi hn => (k.block i (Nat.lt_of_lt_of_le hi h.size) hn).trans (h.block i hi hn)⟩
theorem Mid.set {B T : Nat} {w w1 : World} (h : Mid B T w w1) {g : Nat} (hB : B ≤ g) (hT : g < T) (o : Nat) (v : Value) : Mid B T w (w1.setCell ⟨g, o, none⟩ v) :=
  h.trans ⟨rfl, rfl, rfl, by simp, fun k hk hn => Below.heap_setCell _ _ _ _ (by show k ≠ g; omega)⟩
theorem Mid.below {B T : Nat} {w w' : World} (h : Mid B T w w') (hB : B ≤ w.heap.size) : Below B w w' := ⟨h.os, h.tape, h.output, h.size, fun k hk => h.block k (by omega) (Or.inl hk)⟩
/-- What lies behind stays. -/
theorem Mid.has {B T : Nat} {w w' : World} (h : Mid B T w w') {g : Nat} {xs : List Value} (H : Has w g xs) (hg : g < B ∨ T ≤ g) : Has w' g xs :=
  ⟨Nat.lt_of_lt_of_le H.1 h.size, fun i u hu => ⟨(World.cell?_of_block (a := ⟨g, i, none⟩) (h.block g H.1 hg)).trans (H.2 i u hu).1, (World.frozen?_of_block (a := ⟨g, i, none⟩) (h.block g H.1 hg)).trans (H.2 i u hu).2⟩⟩
theorem Mid.fown {B T C : Nat} {w w' : World} (h : Mid B T w w') {ao : Option Addr} {xs : List Value} (H : FOwn C w ao xs) (hC : T ≤ C) : FOwn C w' ao xs := fun h0 => by
  obtain ⟨b, e, h1, h2, h3⟩ := H h0
  have hb := h.block b h2 (Or.inr (by omega))
  exact ⟨b, e, h1, Nat.lt_of_lt_of_le h2 h.size, fun i u hu => ⟨(World.cell?_of_block (a := ⟨b, i, none⟩) hb).trans (h3 i u hu).1, (World.frozen?_of_block (a := ⟨b, i, none⟩) hb).trans (h3 i u hu).2⟩⟩
theorem Mid.cown {B T C : Nat} {w w' : World} (h : Mid B T w w') {c : Ce} {q : Pl} (H : COwn C w c q) (hC : T ≤ C) : COwn C w' c q := ⟨h.fown H.1 hC, h.fown H.2.1 hC, h.fown H.2.2 hC⟩

/-- Rows of an answer's own, at the time T when it was answered. -/
theorem nums_cell {B T : Nat} {w0 w : World} {c : Ce} {q : Pl} (HO : COwn B w0 c q) (hT : w0.heap.size = T) (hl : Below T w0 w) : Nums B T w q.eo c.ents.length 3 1 ∧ Nums B T w q.lo c.elems.length 5 2 ∧ Nums B T w q.so c.seen.length 1 0 := by
  have hs := hl.size
  subst hT
  refine ⟨fun h0 => ?_, fun h0 => ?_, fun h0 => ?_⟩
  · obtain ⟨g, h1, h2, h3, h4⟩ := HO.1 (by rw [flatE_len]; omega)
    refine ⟨g, h1, h2, h3, hs, fun j hj => IntAt.later ?_ h3 hl⟩
    have := (flatE_at c.ents j (List.getElem?_eq_getElem hj)).2.1
    exact ⟨⟨_, (h4 _ _ this).1⟩, (h4 _ _ this).2⟩
  · obtain ⟨g, h1, h2, h3, h4⟩ := HO.2.1 (by rw [flatL_len]; omega)
    refine ⟨g, h1, h2, h3, hs, fun j hj => IntAt.later ?_ h3 hl⟩
    have := (flatL_at c.elems j (List.getElem?_eq_getElem hj)).2.2.1
    exact ⟨⟨_, (h4 _ _ this).1⟩, (h4 _ _ this).2⟩
  · obtain ⟨g, h1, h2, h3, h4⟩ := HO.2.2 (by rw [flatI_len]; omega)
    refine ⟨g, h1, h2, h3, hs, fun j hj => IntAt.later ?_ h3 hl⟩
    rw [Nat.mul_one, Nat.add_zero]
    have := flatI_at c.seen j (List.getElem?_eq_getElem hj)
    exact ⟨⟨_, (h4 _ _ this).1⟩, (h4 _ _ this).2⟩

set_option maxHeartbeats 400000 in
set_option maxRecDepth 100000 in
theorem spoilIntsM (B h : Nat) (ao : Option Addr) (ca n : Nat) (w : World) (ha : Nums B h w ao n 1 0) (hla : n ≤ maxLen) :
    Calls Tryz.prog 40 #[.slice ao n ca] w fun e w' => e = .returned (.tuple #[]) ∧ Mid B h w w' := by
  have HA : Hid (Nums B h w ao n 1 0) := ha
  clear ha
  unfold maxLen at hla
  by_cases h0 : 0 < n
  · obtain ⟨g, rfl, hB, hg, _⟩ := HA.out h0
    go_enter Tryz.func40, Tryz.ntmps40
    go_wp2
    go_loopg [2] n (fun k iv wr => ∃ i : Nat, i + k = n ∧ iv = .int .i64 i ∧ Mid B h w wr ∧ Nums B h wr (some ⟨g, 0, none⟩) n 1 0)
    case atStart => exact ⟨0, by omega, rfl, Mid.refl _ _ _, HA.out⟩
    case round =>
      obtain ⟨i, hin, rfl, hbel, hnum⟩ := hrel
      have HN : Hid (Nums B h wr (some ⟨g, 0, none⟩) n 1 0) := hnum
      clear hnum
      by_cases hi : i < n
      · obtain ⟨g', e, _, _, _, h5⟩ := HN.out h0
        simp only [Option.some.injEq, Addr.mk.injEq, and_true] at e
        subst e
        obtain ⟨⟨z, hz⟩, hf⟩ := h5 i hi
        rw [Nat.mul_one, Nat.add_zero] at hz hf
        clear h5
        go_wp2
        go_roundg (gk - 1)
        case measure => omega
        case rel => exact ⟨i + 1, by omega, by go_num, hbel.set hB hg _ _, HN.out.set _ _ _⟩
      · have hd : decide ((i : Int) < (n : Int)) = false := by simp; omega
        go_wp2
        first | go_ret | go_end0
        exact ⟨rfl, hbel⟩
  · obtain rfl : n = 0 := by omega
    go_enter Tryz.func40, Tryz.ntmps40
    go_wp2
    refine wp_loop_rounds 1 ?_
    rw [rounds_succ]
    go_wp2
    first | go_ret | go_end0
    exact ⟨rfl, Mid.refl _ _ _⟩

/-- What SpoilCell keeps. -/
def SpoM (B T h : Nat) (w : World) (c : Ce) (q : Pl) (w1 : World) : Prop := Mid B T w w1 ∧ Has w1 h (ceL c q) ∧ T ≤ h ∧ Nums B T w1 q.eo c.ents.length 3 1 ∧ Nums B T w1 q.lo c.elems.length 5 2 ∧ Nums B T w1 q.so c.seen.length 1 0

theorem SpoM.set {B T h : Nat} {w w1 : World} {c : Ce} {q : Pl} (H : SpoM B T h w c q w1) {g : Nat} (hg : B ≤ g) (hh : g < T) (o : Nat) (z : Int) : SpoM B T h w c q (w1.setCell ⟨g, o, none⟩ (.int .i64 z)) :=
  ⟨H.1.set hg hh _ _, H.2.1.other (by have := H.2.2.1; omega) _ _, H.2.2.1, H.2.2.2.1.set _ _ _, H.2.2.2.2.1.set _ _ _, H.2.2.2.2.2.set _ _ _⟩

theorem SpoM.later {B T h : Nat} {w w1 w2 : World} {c : Ce} {q : Pl} (H : SpoM B T h w c q w1) (hl : Below w1.heap.size w1 w2) : SpoM B T h w c q w2 :=
  ⟨H.1.later hl, H.2.1.later hl, H.2.2.1, H.2.2.2.1.later hl, H.2.2.2.2.1.later hl, H.2.2.2.2.2.later hl⟩

set_option maxHeartbeats 1000000 in
set_option maxRecDepth 100000 in
theorem spoilCellM (B T : Nat) (c : Ce) (q : Pl) (w : World) (HO : Nums B T w q.eo c.ents.length 3 1 ∧ Nums B T w q.lo c.elems.length 5 2 ∧ Nums B T w q.so c.seen.length 1 0) (hB : T ≤ w.heap.size) (hf : Lens c) :
    Calls Tryz.prog 19 #[ceV c q] w fun e w' => e = .returned (.tuple #[]) ∧ Mid B T w w' := by
  obtain ⟨f1, f2, f3⟩ := hf
  have H0 : Hid (SpoM B T w.heap.size w c q (w.alloc (.cells (ceL c q).toArray 30))) := by
    have hb : Below w.heap.size w (w.alloc (.cells (ceL c q).toArray 30)) := (Below.refl _ _).alloc (Nat.le_refl _) _
    exact ⟨(Mid.refl _ _ _).later hb, has_new _ _ _, hB, HO.1.later hb, HO.2.1.later hb, HO.2.2.later hb⟩
  obtain ⟨h, hh⟩ : ∃ h, w.heap.size = h := ⟨_, rfl⟩
  rw [hh] at H0
  clear HO hB
  go_enter Tryz.func19, Tryz.ntmps19
  go_wp2
  go_loopg [2] c.ents.length (fun k iv wr => ∃ i : Nat, i + k = c.ents.length ∧ iv = .int .i64 i ∧ SpoM B T h w c q wr)
  case atStart => exact ⟨0, by omega, rfl, H0.out⟩
  case round =>
    obtain ⟨i, hin, rfl, hs⟩ := hrel
    have HS : Hid (SpoM B T h w c q wr) := hs
    clear hs H0
    have t7 := HS.out.2.1.at 7 rfl
    by_cases hi : i < c.ents.length
    · obtain ⟨g, ea, g1, g2, g3, h5⟩ := HS.out.2.2.2.1 (by omega)
      obtain ⟨⟨z, hz⟩, hfz⟩ := h5 i hi
      rw [ea] at t7
      clear h5 ea
      go_wp2
      go_region
      all_goals go_wp2
      all_goals go_roundg (gk - 1)
      case measure => omega
      case rel => exact ⟨i + 1, by omega, by go_num, (HS.out.later (Below.refl _ _).drew).set g1 g2 _ _⟩
    · have hd : decide ((i : Int) < (c.ents.length : Int)) = false := by simp; omega
      go_wp2
      clear t7
      go_loopg [3] c.elems.length (fun k iv wr => ∃ i : Nat, i + k = c.elems.length ∧ iv = .int .i64 i ∧ SpoM B T h w c q wr)
      case atStart => exact ⟨0, by omega, rfl, HS.out⟩
      case round =>
        obtain ⟨j, hjn, rfl, hs⟩ := hrel
        clear HS
        have HS : Hid (SpoM B T h w c q wr) := hs
        clear hs
        have t8 := HS.out.2.1.at 8 rfl
        by_cases hj : j < c.elems.length
        · obtain ⟨g, ea, g1, g2, g3, h5⟩ := HS.out.2.2.2.2.1 (by omega)
          obtain ⟨⟨z, hz⟩, hfz⟩ := h5 j hj
          rw [ea] at t8
          clear h5 ea
          go_wp2
          go_region
          all_goals go_wp2
          all_goals go_roundg (gk - 1)
          case measure => omega
          case rel => exact ⟨j + 1, by omega, by go_num, (HS.out.later (Below.refl _ _).drew).set g1 g2 _ _⟩
        · have hd2 : decide ((j : Int) < (c.elems.length : Int)) = false := by simp; omega
          have t9 := HS.out.2.1.at 9 rfl
          go_wp2_with fail
          refine (spoilIntsM B T q.so q.sc c.seen.length wr HS.out.2.2.2.2.2 (by unfold maxLen; omega)).mono ?_
          rintro e w5 ⟨rfl, b5⟩
          go_wp2
          first | go_ret | go_end0
          exact ⟨rfl, HS.out.1.trans b5⟩

end Go.Proofs.YtgkddimijmnpcaaGreatDoor

