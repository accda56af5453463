/-
  A put on a set in a region that draws its order: what the region keeps, what it ends with, a round's end.
-/
import Derived.Test.YtedgobdeoheaoaaTurn9
import Derived.Test.YtedgobdeoheaoaaCeGen
import Derived.Deep.RegionHeld3
import Derived.Deep.Cut
import Derived.Deep.CutBlock
import Derived.BigQuiet
namespace Go.Proofs.Ytedgobdeoheaoaa
open Go.RowKit Go.Shelf
set_option linter.unusedVariables false
set_option linter.unusedSimpArgs false

/-- Where the region begins: the set's block g, the row of its entries, a further cell that is read. -/
structure Src9 (w1 : World) (B g : Nat) (n : Nat) (q : Pl) (l : List E3) (bk o : Nat) (u : Value) : Prop where
  hB : w1.heap.size = B
  hg : Has w1 g (slL n q)
  hr : FRow w1 q.eo (flatE l)
  hk : bk < B
  hu : w1.cell? ⟨bk, o, none⟩ = some u

/-- What the region keeps. -/
abbrev Held9 (w1 : World) (B g : Nat) (n : Nat) (q : Pl) (bk o : Nat) (u : Value) (W : World) : Prop :=
  Hid (Below B w1 W ∧ B ≤ W.heap.size) ∧ W.cell? ⟨g, 0, none⟩ = some (.int .i64 2) ∧ W.cell? ⟨g, 1, none⟩ = some (.bool false) ∧ W.cell? ⟨g, 2, none⟩ = some (.int .i64 0) ∧ W.cell? ⟨g, 3, none⟩ = some (.int .i64 0) ∧ W.cell? ⟨g, 4, none⟩ = some (.string ⟨#[]⟩) ∧ W.cell? ⟨g, 5, none⟩ = some (.int .i64 0) ∧ W.cell? ⟨g, 6, none⟩ = some (.int .i64 0) ∧ W.cell? ⟨g, 7, none⟩ = some (.slice q.eo n q.ec) ∧ W.cell? ⟨g, 8, none⟩ = some (.slice q.lo 0 q.lc) ∧ W.cell? ⟨g, 9, none⟩ = some (.slice q.so 0 q.sc) ∧ W.cell? ⟨bk, o, none⟩ = some u

section
variable {w1 W : World} {B C g n bk o : Nat} {q : Pl} {l : List E3} {u : Value}

theorem held9_of (hs : Src9 w1 B g n q l bk o u) (hb : Below B w1 W ∧ B ≤ W.heap.size) : Held9 w1 B g n q bk o u W := by
  have h1 := (hs.hg.under (by rw [← hs.hB]; exact hs.hg.1) hb.1).ten
  have h2 := (hb.1.cell (p := ⟨bk, o, none⟩) (by exact hs.hk)).trans hs.hu
  exact ⟨hb, h1.1, h1.2.1, h1.2.2.1, h1.2.2.2.1, h1.2.2.2.2.1, h1.2.2.2.2.2.1, h1.2.2.2.2.2.2.1, h1.2.2.2.2.2.2.2.1, h1.2.2.2.2.2.2.2.2.1, h1.2.2.2.2.2.2.2.2.2, h2⟩

theorem held9_later {W' : World} (hs : Src9 w1 B g n q l bk o u) (hb : Below W.heap.size W W') (h : Held9 w1 B g n q bk o u W) : Held9 w1 B g n q bk o u W' :=
  held9_of hs ⟨h.1.out.1.trans (hb.mono h.1.out.2), Nat.le_trans h.1.out.2 hb.size⟩

theorem held9_drew (hs : Src9 w1 B g n q l bk o u) : Held9 w1 B g n q bk o u w1.drew := held9_of hs ⟨(Below.refl _ _).drew, by have := hs.hB; exact Nat.le_of_eq this.symm⟩

theorem held9_alloc (hs : Src9 w1 B g n q l bk o u) (x : Obj) (h : Held9 w1 B g n q bk o u W) : Held9 w1 B g n q bk o u (W.alloc x) :=
  held9_later hs ((Below.refl _ _).alloc (Nat.le_refl _) _) h

theorem held9_first (hs : Src9 w1 B g n q l bk o u) (x : Obj) : Held9 w1 B g n q bk o u (w1.alloc x).drew :=
  held9_of hs ⟨((Below.refl _ _).alloc (Nat.le_of_eq hs.hB.symm) x).drew, by have e : (w1.alloc x).drew.heap.size = w1.heap.size + 1 := by simp
                                                                             have := hs.hB; omega⟩

/-- The place of the answer, made ahead of it. -/
def Nine9 (B C : Nat) (w : World) (k : Nat) : Prop := Has w k (zl 0) ∧ B ≤ k ∧ k < C

theorem nine9_new {w w3 : World} {t : TypeId} (h : B ≤ w.heap.size) (hb : Below (w.alloc (.cells (zl 0).toArray t)).heap.size (w.alloc (.cells (zl 0).toArray t)) w3) : Nine9 B (w.alloc (.cells (zl 0).toArray t)).heap.size w3 w.heap.size :=
  ⟨(has_new w (zl 0) t).later hb, h, by simp⟩

theorem nine9_newd {w w3 : World} {t : TypeId} (h : B ≤ w.heap.size) (hb : Below (w.alloc (.cells (zl 0).toArray t)).drew.heap.size (w.alloc (.cells (zl 0).toArray t)).drew w3) : Nine9 B (w.alloc (.cells (zl 0).toArray t)).drew.heap.size w3 w.heap.size :=
  ⟨((has_new w (zl 0) t).later (Below.refl _ _).drew).later hb, h, by show w.heap.size < (w.alloc (.cells (zl 0).toArray t)).heap.size; simp⟩

theorem nine9_ten {w : World} {k : Nat} (h : Nine9 B C w k) : w.cell? ⟨k, 0, none⟩ = some (.int .i64 0) ∧ w.cell? ⟨k, 1, none⟩ = some (.bool false) ∧ w.cell? ⟨k, 2, none⟩ = some (.int .i64 0) ∧ w.cell? ⟨k, 3, none⟩ = some (.int .i64 0) ∧ w.cell? ⟨k, 4, none⟩ = some (.string ⟨#[]⟩) ∧ w.cell? ⟨k, 5, none⟩ = some (.int .i64 0) ∧ w.cell? ⟨k, 6, none⟩ = some (.int .i64 0) ∧ w.cell? ⟨k, 7, none⟩ = some (.slice none 0 0) ∧ w.cell? ⟨k, 8, none⟩ = some (.slice none 0 0) ∧ w.cell? ⟨k, 9, none⟩ = some (.slice none 0 0) := h.1.ten

theorem nine9_tenf {w : World} {k : Nat} (h : Nine9 B C w k) : w.frozen? ⟨k, 0, none⟩ = false ∧ w.frozen? ⟨k, 1, none⟩ = false ∧ w.frozen? ⟨k, 2, none⟩ = false ∧ w.frozen? ⟨k, 3, none⟩ = false ∧ w.frozen? ⟨k, 4, none⟩ = false ∧ w.frozen? ⟨k, 5, none⟩ = false ∧ w.frozen? ⟨k, 6, none⟩ = false ∧ w.frozen? ⟨k, 7, none⟩ = false ∧ w.frozen? ⟨k, 8, none⟩ = false ∧ w.frozen? ⟨k, 9, none⟩ = false := h.1.tenf

theorem nine9_later {w w3 : World} {k : Nat} (h : Nine9 B C w k) (hb : Below w.heap.size w w3) : Nine9 B w.heap.size w3 k := ⟨h.1.later hb, h.2.1, h.1.1⟩

theorem held9_put {k : Nat} (hs : Src9 w1 B g n q l bk o u) (t : Nine9 B C W k) (h : Held9 w1 B g n q bk o u W) (u0 u1 u2 u3 u4 u5 u6 u7 u8 u9 : Value) : Held9 w1 B g n q bk o u (put10 W k u0 u1 u2 u3 u4 u5 u6 u7 u8 u9) :=
  held9_of hs ⟨below_put10 h.1.out.1 t.2.1 _ _ _ _ _ _ _ _ _ _, by have := h.1.out.2; simpa using this⟩

theorem held9_swap {x : Obj} (hs : Src9 w1 B g n q l bk o u) (hB : B ≤ W.heap.size) (h : Held9 w1 B g n q bk o u (W.alloc x)) (y : Obj) : Held9 w1 B g n q bk o u (W.alloc y) := by
  have h0 := h.1.out.1
  refine held9_of hs ⟨⟨h0.os, h0.tape, h0.output, by simpa using h0.size, fun i hi => ?_⟩, by simp; omega⟩
  rw [← h0.block i hi, Below.heap_alloc _ _ _ (by omega), Below.heap_alloc _ _ _ (by omega)]

/-- Behind the region: the answer lies in a new place, all below is as it was. -/
def End9 (w1 : World) (B : Nat) (n' : Nat) (l' : List E3) (k : Nat) (q' : Pl) (W : World) : Prop := B ≤ k ∧ Has W k (slL n' q') ∧ FOwn B W q'.eo (flatE l') ∧ Below B w1 W

theorem end9_put {k n' : Nat} {q' : Pl} {l' : List E3} (t : Nine9 B C W k) (O : FOwn C W q'.eo (flatE l')) (h : Held9 w1 B g n q bk o u (put10 W k (.int .i64 2) (.bool false) (.int .i64 0) (.int .i64 0) (.string ⟨#[]⟩) (.int .i64 0) (.int .i64 0) (.slice q'.eo n' q'.ec) (.slice q'.lo 0 q'.lc) (.slice q'.so 0 q'.sc))) :
    End9 w1 B n' l' k q' (put10 W k (.int .i64 2) (.bool false) (.int .i64 0) (.int .i64 0) (.string ⟨#[]⟩) (.int .i64 0) (.int .i64 0) (.slice q'.eo n' q'.ec) (.slice q'.lo 0 q'.lc) (.slice q'.so 0 q'.sc)) :=
  ⟨t.2.1, t.1.put10 _ _ _ _ _ _ _ _ _ _, (O.put10 t.2.2 _ _ _ _ _ _ _ _ _ _).mono (by have := t.2.1; have := t.2.2; omega), h.1.out.1⟩

theorem end9_new {n' : Nat} {q' : Pl} {l' : List E3} (t : TypeId) (hC : B ≤ C) (hB : B ≤ W.heap.size) (O : FOwn C W q'.eo (flatE l')) (h : Held9 w1 B g n q bk o u (W.alloc (.cells (slL n' q').toArray t))) :
    End9 w1 B n' l' W.heap.size q' (W.alloc (.cells (slL n' q').toArray t)) :=
  ⟨hB, has_new W (slL n' q') t, (O.mono hC).later ((Below.refl _ _).alloc (Nat.le_refl _) _), h.1.out.1⟩

end

/-- The i-th dot, as two numbers. -/
theorem dot_as (i : Nat) {d1 d2 : Int} (hd : dotN i = (d1, d2)) (hi : i < 64) (w : World) :
    Calls Try.prog 26 #[.int .i64 i] w fun e w' => e = .returned (.agg #[.int .i64 d1, .int .i64 d2]) ∧ Below w.heap.size w w' := by
  have := dot_any i hi w
  rw [hd] at this
  exact this

theorem put_ok {f : Nat → ByteArray} {g : Nat → Nat} {i : Nat} (hg : ∀ j, j < i → g j ≠ g i) (hi : g i < 64) (hv : (f (g i)).size ≤ 256) : putB (sc (accL f g i)) (dotN (g i)) (f (g i)) = true := by
  unfold putB
  rw [show (sc (accL f g i)).kind = 2 from rfl, show (sc (accL f g i)).ents = accL f g i from rfl, hasD_no (accL_free f g i hg)]
  have h1 : mayB (dotN (g i)).1 (dotN (g i)).2 16 = true := by
    refine decide_eq_true ?_
    show (1 : Int) ≤ 16 ∧ (16 : Int) ≤ 16 ∧ 0 ≤ ((g i % 3 : Nat) : Int) ∧ ((g i % 3 : Nat) : Int) < 16 ∧ 1 ≤ 1 + ((g i / 3 : Nat) : Int) ∧ 1 + ((g i / 3 : Nat) : Int) ≤ 1048575
    omega
  rw [h1, decide_eq_true hv]
  rfl

/-- Put at the i-th step, from within the region. -/
theorem put_at9 {w1 W : World} {B gb bk o : Nat} {q : Pl} {u : Value} {f : Nat → ByteArray} {g : Nat → Nat} {i : Nat} {d1 d2 : Int} {v : ByteArray} (hs : Src9 w1 B gb i q (accL f g i) bk o u) (h : Held9 w1 B gb i q bk o u W) (hd : dotN (g i) = (d1, d2)) (hv : f (g i) = v) (hsm : Small (accL f g i)) (hok : putB (sc (accL f g i)) (d1, d2) v = true) :
    Calls Try.prog 10 #[slV i q, .agg #[.int .i64 d1, .int .i64 d2], .string v] W fun e w' => ∃ q', e = .returned (.tuple #[slV (i + 1) q', .int .i64 0]) ∧ FOwn W.heap.size w' q'.eo (flatE (accL f g (i + 1))) ∧ B ≤ W.heap.size ∧ Below W.heap.size W w' := by
  refine (puts_yes (l := accL f g i) (q := q) (d := (d1, d2)) (v := v) W (accL f g (i + 1)) i (i + 1) (accL_len _ _ _).symm (hs.hr.later (hs.hB.symm ▸ h.1.out.1)) hsm hok ?_ (accL_len _ _ _).symm).mono ?_
  · rw [accL, hd, hv]
  · rintro e w' ⟨q', h1, h2, h3⟩
    exact ⟨q', h1, h2, h.1.out.2, h3⟩

/-- The answer written over the set: a round's end. -/
theorem round9 {h : Nat} {w w4 : World} {g i n' B : Nat} {q q' : Pl} {l' : List E3} {L : List (Nat × List Value)} (H : Has w4 g (slL i q)) (hR : Regs h w w4 L) (O : FOwn B w4 q'.eo (flatE l')) (hg : h ≤ g) (hB : g < B) (hL : ∀ e ∈ L, e.1 ≠ g) :
    Regs h w (put10 w4 g (.int .i64 2) (.bool false) (.int .i64 0) (.int .i64 0) (.string ⟨#[]⟩) (.int .i64 0) (.int .i64 0) (.slice q'.eo n' q'.ec) (.slice q'.lo 0 q'.lc) (.slice q'.so 0 q'.sc)) ((g, slL n' q') :: L) ∧ FOwn (g + 1) (put10 w4 g (.int .i64 2) (.bool false) (.int .i64 0) (.int .i64 0) (.string ⟨#[]⟩) (.int .i64 0) (.int .i64 0) (.slice q'.eo n' q'.ec) (.slice q'.lo 0 q'.lc) (.slice q'.so 0 q'.sc)) q'.eo (flatE l') := by
  refine ⟨⟨H.put10 _ _ _ _ _ _ _ _ _ _, ?_⟩, (O.put10 hB _ _ _ _ _ _ _ _ _ _).mono (by omega)⟩
  induction L with
  | nil => exact ⟨below_put10 hR.1 hg _ _ _ _ _ _ _ _ _ _, by have := hR.2; simpa using this⟩
  | cons e L ih =>
    refine ⟨?_, ih hR.2 fun x hx => hL x (by simp [hx])⟩
    have hne := hL e (by simp)
    repeat apply Has.other (hk := by exact hne.symm)
    exact hR.1

theorem Regs.under9 {h B : Nat} {w w1 w2 : World} {L : List (Nat × List Value)} (H : Regs h w w1 L) (hL : ∀ e ∈ L, e.1 < B) (hB : h ≤ B) (hb : Below B w1 w2) : Regs h w w2 L := by
  induction L with
  | nil => exact ⟨H.1.trans (hb.mono hB), Nat.le_trans H.2 hb.size⟩
  | cons e L ih => exact ⟨H.1.under (hL e (by simp)) hb, ih H.2 fun e he => hL e (by simp [he])⟩

end Go.Proofs.Ytedgobdeoheaoaa
