/-
  The laws' own SpoilCell and SpoilInts: they write over what an answer's lists hold, and over nothing else.
-/
import Derived.Test.YtjfgccjdkflfoaaCeSame
namespace Go.Proofs.Ytjfgccjdkflfoaa
open Go.RowKit
set_option linter.unusedVariables false
set_option linter.unusedSimpArgs false

/-- There is a number, and it may be written over. -/
def IntAt (w : World) (b o : Nat) : Prop := (∃ z, w.cell? ⟨b, o, none⟩ = some (.int .i64 z)) ∧ w.frozen? ⟨b, o, none⟩ = false

theorem IntAt.set {w : World} {b o : Nat} (h : IntAt w b o) (b' o' : Nat) (z' : Int) : IntAt (w.setCell ⟨b', o', none⟩ (.int .i64 z')) b o := by
  obtain ⟨⟨z, hz⟩, hf⟩ := h
  refine ⟨?_, by rw [World.frozen?_setCell]; exact hf⟩
  by_cases e : (⟨b', o', none⟩ : Addr) = ⟨b, o, none⟩
  · rw [e]
    exact ⟨z', World.cell?_setCell_same _ _ _ hz⟩
  · refine ⟨z, ?_⟩
    rw [World.cell?_setCell_other _ _ _ _ (by first | exact e | exact fun e' => e e'.symm)]
    exact hz

theorem IntAt.later {w w' : World} {b o : Nat} (h : IntAt w b o) (hb : b < w.heap.size) (hl : Below w.heap.size w w') : IntAt w' b o := by
  obtain ⟨⟨z, hz⟩, hf⟩ := h
  exact ⟨⟨z, (hl.cell (by exact hb)).trans hz⟩, (hl.frozen (by exact hb)).trans hf⟩

/-- n numbers, s cells apart, the first at o, in a block from B on and below h. -/
def Nums (B h : Nat) (w : World) (ao : Option Addr) (n s o : Nat) : Prop := 0 < n → ∃ g, ao = some ⟨g, 0, none⟩ ∧ B ≤ g ∧ g < h ∧ h ≤ w.heap.size ∧ ∀ j, j < n → IntAt w g (j * s + o)

theorem Nums.set {B h : Nat} {w : World} {ao : Option Addr} {n s o : Nat} (H : Nums B h w ao n s o) (b' o' : Nat) (z' : Int) : Nums B h (w.setCell ⟨b', o', none⟩ (.int .i64 z')) ao n s o := fun h0 => by
  obtain ⟨g, h1, h2, h3, h4, h5⟩ := H h0
  exact ⟨g, h1, h2, h3, by simpa using h4, fun j hj => (h5 j hj).set _ _ _⟩

theorem Nums.later {B h : Nat} {w w' : World} {ao : Option Addr} {n s o : Nat} (H : Nums B h w ao n s o) (hl : Below w.heap.size w w') : Nums B h w' ao n s o := fun h0 => by
  obtain ⟨g, h1, h2, h3, h4, h5⟩ := H h0
  exact ⟨g, h1, h2, h3, Nat.le_trans h4 hl.size, fun j hj => (h5 j hj).later (by omega) hl⟩

set_option maxHeartbeats 400000 in
set_option maxRecDepth 100000 in
theorem spoilInts_any (B h : Nat) (ao : Option Addr) (ca n : Nat) (w : World) (ha : Nums B h w ao n 1 0) (hla : n ≤ maxLen) :
    Calls Try.prog 33 #[.slice ao n ca] w fun e w' => e = .returned (.tuple #[]) ∧ Below B w w' := by
  have HA : Hid (Nums B h w ao n 1 0) := ha
  clear ha
  unfold maxLen at hla
  by_cases h0 : 0 < n
  · obtain ⟨g, rfl, hB, hg, _⟩ := HA.out h0
    go_enter Try.func33, Try.ntmps33
    go_wp2
    go_loopg [2] n (fun k iv wr => ∃ i : Nat, i + k = n ∧ iv = .int .i64 i ∧ Below B w wr ∧ Nums B h wr (some ⟨g, 0, none⟩) n 1 0)
    case atStart => exact ⟨0, by omega, rfl, Below.refl _ _, HA.out⟩
    case round =>
      obtain ⟨i, hin, rfl, hbel, hnum⟩ := hrel
      have HN : Hid (Nums B h wr (some ⟨g, 0, none⟩) n 1 0) := hnum
      clear hnum
      by_cases hi : i < n
      · obtain ⟨g', e, _, _, _, h5⟩ := HN.out h0
        simp only [Option.some.injEq, Addr.mk.injEq, and_true] at e
        subst e
        obtain ⟨⟨z, hz⟩, hf⟩ := h5 i hi
        rw [Nat.mul_one, Nat.add_zero] at hz hf
        clear h5
        go_wp2
        go_roundg (gk - 1)
        case measure => omega
        case rel => exact ⟨i + 1, by omega, by go_num, hbel.setCell (p := ⟨g, i, none⟩) hB _, HN.out.set _ _ _⟩
      · have hd : decide ((i : Int) < (n : Int)) = false := by simp; omega
        go_wp2
        first | go_ret | go_end0
        exact ⟨rfl, hbel⟩
  · obtain rfl : n = 0 := by omega
    go_enter Try.func33, Try.ntmps33
    go_wp2
    refine wp_loop_rounds 1 ?_
    rw [rounds_succ]
    go_wp2
    first | go_ret | go_end0
    exact ⟨rfl, Below.refl _ _⟩

/-- What SpoilCell keeps. -/
def Spo (B h : Nat) (w : World) (c : Ce) (q : Pl) (w1 : World) : Prop := Below B w w1 ∧ Has w1 h (ceL c q) ∧ B ≤ h ∧ Nums B h w1 q.eo c.ents.length 3 1 ∧ Nums B h w1 q.lo c.elems.length 5 2 ∧ Nums B h w1 q.so c.seen.length 1 0

theorem Spo.set {B h : Nat} {w w1 : World} {c : Ce} {q : Pl} (H : Spo B h w c q w1) {g : Nat} (hg : B ≤ g) (hh : g < h) (o : Nat) (z : Int) : Spo B h w c q (w1.setCell ⟨g, o, none⟩ (.int .i64 z)) :=
  ⟨H.1.setCell (p := ⟨g, o, none⟩) hg _, H.2.1.other (by omega) _ _, H.2.2.1, H.2.2.2.1.set _ _ _, H.2.2.2.2.1.set _ _ _, H.2.2.2.2.2.set _ _ _⟩

theorem Spo.later {B h : Nat} {w w1 w2 : World} {c : Ce} {q : Pl} (H : Spo B h w c q w1) (hl : Below w1.heap.size w1 w2) : Spo B h w c q w2 :=
  ⟨H.1.trans (hl.mono (by have := H.2.1.1; have := H.2.2.1; omega)), H.2.1.later hl, H.2.2.1, H.2.2.2.1.later hl, H.2.2.2.2.1.later hl, H.2.2.2.2.2.later hl⟩

theorem spo_new {B : Nat} {w : World} {c : Ce} {q : Pl} (HO : COwn B w c q) (hB : B ≤ w.heap.size) (t : TypeId) : Spo B w.heap.size w c q (w.alloc (.cells (ceL c q).toArray t)) := by
  have hb : Below w.heap.size w (w.alloc (.cells (ceL c q).toArray t)) := (Below.refl _ _).alloc (Nat.le_refl _) _
  refine ⟨hb.mono hB, has_new _ _ _, hB, fun h0 => ?_, fun h0 => ?_, fun h0 => ?_⟩
  · obtain ⟨g, h1, h2, h3, h4⟩ := HO.1 (by rw [flatE_len]; omega)
    refine ⟨g, h1, h2, h3, by simp, fun j hj => IntAt.later ?_ h3 hb⟩
    have := (flatE_at c.ents j (List.getElem?_eq_getElem hj)).2.1
    exact ⟨⟨_, (h4 _ _ this).1⟩, (h4 _ _ this).2⟩
  · obtain ⟨g, h1, h2, h3, h4⟩ := HO.2.1 (by rw [flatL_len]; omega)
    refine ⟨g, h1, h2, h3, by simp, fun j hj => IntAt.later ?_ h3 hb⟩
    have := (flatL_at c.elems j (List.getElem?_eq_getElem hj)).2.2.1
    exact ⟨⟨_, (h4 _ _ this).1⟩, (h4 _ _ this).2⟩
  · obtain ⟨g, h1, h2, h3, h4⟩ := HO.2.2 (by rw [flatI_len]; omega)
    refine ⟨g, h1, h2, h3, by simp, fun j hj => IntAt.later ?_ h3 hb⟩
    rw [Nat.mul_one, Nat.add_zero]
    have := flatI_at c.seen j (List.getElem?_eq_getElem hj)
    exact ⟨⟨_, (h4 _ _ this).1⟩, (h4 _ _ this).2⟩

end Go.Proofs.Ytjfgccjdkflfoaa
