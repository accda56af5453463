/-
  An insertion at a list in a region that draws its order: what the region keeps, what it ends with, a round's end.
-/
import Derived.Test.YtghlegidapmpmaaLists10
import Derived.Test.YtghlegidapmpmaaStepT
namespace Go.Proofs.Ytghlegidapmpmaa
open Go.RowKit Go.Shelf
set_option linter.unusedVariables false
set_option linter.unusedSimpArgs false

/-- Where the region begins: the list's block g, the row of its elements, a further cell that is read. -/
structure SrcL (w1 : World) (B g : Nat) (n : Nat) (q : Pl) (l : List L5) (bk o : Nat) (u : Value) (bk2 o2 : Nat) (uu : Value) : Prop where
  hB : w1.heap.size = B
  hg : Has w1 g (llL n q)
  hr : FRow w1 q.lo (flatL l)
  hk : bk < B
  hu : w1.cell? ⟨bk, o, none⟩ = some u
  hk2 : bk2 < B
  hu2 : w1.cell? ⟨bk2, o2, none⟩ = some uu

/-- What the region keeps. -/
abbrev HeldL (w1 : World) (B g : Nat) (n : Nat) (q : Pl) (bk o : Nat) (u : Value) (bk2 o2 : Nat) (uu : Value) (W : World) : Prop :=
  Hid (Below B w1 W ∧ B ≤ W.heap.size) ∧ W.cell? ⟨g, 0, none⟩ = some (.int .i64 3) ∧ W.cell? ⟨g, 1, none⟩ = some (.bool false) ∧ W.cell? ⟨g, 2, none⟩ = some (.int .i64 0) ∧ W.cell? ⟨g, 3, none⟩ = some (.int .i64 0) ∧ W.cell? ⟨g, 4, none⟩ = some (.string ⟨#[]⟩) ∧ W.cell? ⟨g, 5, none⟩ = some (.int .i64 0) ∧ W.cell? ⟨g, 6, none⟩ = some (.int .i64 0) ∧ W.cell? ⟨g, 7, none⟩ = some (.slice q.eo 0 q.ec) ∧ W.cell? ⟨g, 8, none⟩ = some (.slice q.lo n q.lc) ∧ W.cell? ⟨g, 9, none⟩ = some (.slice q.so 0 q.sc) ∧ W.cell? ⟨bk, o, none⟩ = some u ∧ W.cell? ⟨bk2, o2, none⟩ = some uu

section
variable {w1 W : World} {B C g n bk o bk2 o2 : Nat} {q : Pl} {l : List L5} {u uu : Value}

theorem heldL_of (hs : SrcL w1 B g n q l bk o u bk2 o2 uu) (hb : Below B w1 W ∧ B ≤ W.heap.size) : HeldL w1 B g n q bk o u bk2 o2 uu W := by
  have h1 := (hs.hg.under (by rw [← hs.hB]; exact hs.hg.1) hb.1).ten
  have h2 := (hb.1.cell (p := ⟨bk, o, none⟩) (by exact hs.hk)).trans hs.hu
  exact ⟨hb, h1.1, h1.2.1, h1.2.2.1, h1.2.2.2.1, h1.2.2.2.2.1, h1.2.2.2.2.2.1, h1.2.2.2.2.2.2.1, h1.2.2.2.2.2.2.2.1, h1.2.2.2.2.2.2.2.2.1, h1.2.2.2.2.2.2.2.2.2, h2, (hb.1.cell (p := ⟨bk2, o2, none⟩) (by exact hs.hk2)).trans hs.hu2⟩

theorem heldL_later {W' : World} (hs : SrcL w1 B g n q l bk o u bk2 o2 uu) (hb : Below W.heap.size W W') (h : HeldL w1 B g n q bk o u bk2 o2 uu W) : HeldL w1 B g n q bk o u bk2 o2 uu W' :=
  heldL_of hs ⟨h.1.out.1.trans (hb.mono h.1.out.2), Nat.le_trans h.1.out.2 hb.size⟩

theorem heldL_drew (hs : SrcL w1 B g n q l bk o u bk2 o2 uu) : HeldL w1 B g n q bk o u bk2 o2 uu w1.drew := heldL_of hs ⟨(Below.refl _ _).drew, by have := hs.hB; exact Nat.le_of_eq this.symm⟩

theorem heldL_alloc (hs : SrcL w1 B g n q l bk o u bk2 o2 uu) (x : Obj) (h : HeldL w1 B g n q bk o u bk2 o2 uu W) : HeldL w1 B g n q bk o u bk2 o2 uu (W.alloc x) :=
  heldL_later hs ((Below.refl _ _).alloc (Nat.le_refl _) _) h

theorem heldL_first (hs : SrcL w1 B g n q l bk o u bk2 o2 uu) (x : Obj) : HeldL w1 B g n q bk o u bk2 o2 uu (w1.alloc x).drew :=
  heldL_of hs ⟨((Below.refl _ _).alloc (Nat.le_of_eq hs.hB.symm) x).drew, by have e : (w1.alloc x).drew.heap.size = w1.heap.size + 1 := by simp
                                                                             have := hs.hB; omega⟩

theorem heldL_put {k : Nat} (hs : SrcL w1 B g n q l bk o u bk2 o2 uu) (t : NineT B C W k) (h : HeldL w1 B g n q bk o u bk2 o2 uu W) (u0 u1 u2 u3 u4 u5 u6 u7 u8 u9 : Value) : HeldL w1 B g n q bk o u bk2 o2 uu (put10 W k u0 u1 u2 u3 u4 u5 u6 u7 u8 u9) :=
  heldL_of hs ⟨below_put10 h.1.out.1 t.2.1 _ _ _ _ _ _ _ _ _ _, by have := h.1.out.2; simpa using this⟩

theorem heldL_swap {x : Obj} (hs : SrcL w1 B g n q l bk o u bk2 o2 uu) (hB : B ≤ W.heap.size) (h : HeldL w1 B g n q bk o u bk2 o2 uu (W.alloc x)) (y : Obj) : HeldL w1 B g n q bk o u bk2 o2 uu (W.alloc y) := by
  have h0 := h.1.out.1
  refine heldL_of hs ⟨⟨h0.os, h0.tape, h0.output, by simpa using h0.size, fun i hi => ?_⟩, by simp; omega⟩
  rw [← h0.block i hi, Below.heap_alloc _ _ _ (by omega), Below.heap_alloc _ _ _ (by omega)]

/-- Behind the region: the answer lies in a new place, all below is as it was. -/
def EndL (w1 : World) (B : Nat) (n' : Nat) (l' : List L5) (k : Nat) (q' : Pl) (W : World) : Prop := B ≤ k ∧ Has W k (llL n' q') ∧ FOwn B W q'.lo (flatL l') ∧ Below B w1 W

theorem endL_put {k n' : Nat} {q' : Pl} {l' : List L5} (t : NineT B C W k) (O : FOwn C W q'.lo (flatL l')) (h : HeldL w1 B g n q bk o u bk2 o2 uu (put10 W k (.int .i64 3) (.bool false) (.int .i64 0) (.int .i64 0) (.string ⟨#[]⟩) (.int .i64 0) (.int .i64 0) (.slice q'.eo 0 q'.ec) (.slice q'.lo n' q'.lc) (.slice q'.so 0 q'.sc))) :
    EndL w1 B n' l' k q' (put10 W k (.int .i64 3) (.bool false) (.int .i64 0) (.int .i64 0) (.string ⟨#[]⟩) (.int .i64 0) (.int .i64 0) (.slice q'.eo 0 q'.ec) (.slice q'.lo n' q'.lc) (.slice q'.so 0 q'.sc)) :=
  ⟨t.2.1, t.1.put10 _ _ _ _ _ _ _ _ _ _, (O.put10 t.2.2 _ _ _ _ _ _ _ _ _ _).mono (by have := t.2.1; have := t.2.2; omega), h.1.out.1⟩

theorem endL_new {n' : Nat} {q' : Pl} {l' : List L5} (t : TypeId) (hC : B ≤ C) (hB : B ≤ W.heap.size) (O : FOwn C W q'.lo (flatL l')) (h : HeldL w1 B g n q bk o u bk2 o2 uu (W.alloc (.cells (llL n' q').toArray t))) :
    EndL w1 B n' l' W.heap.size q' (W.alloc (.cells (llL n' q').toArray t)) :=
  ⟨hB, has_new W (llL n' q') t, (O.mono hC).later ((Below.refl _ _).alloc (Nat.le_refl _) _), h.1.out.1⟩

end

/-- Behind a region whose call refuses: all below is as it was. -/
def EndZ (w1 : World) (B : Nat) (k : Nat) (W : World) : Prop := B ≤ k ∧ k < W.heap.size ∧ Below B w1 W
section
variable {w1 W : World} {B C g n bk o bk2 o2 : Nat} {q : Pl} {l : List L5} {u uu : Value}
theorem endZ_put {k : Nat} (t : NineT B C W k) (h : HeldL w1 B g n q bk o u bk2 o2 uu (put10 W k (.int .i64 0) (.bool false) (.int .i64 0) (.int .i64 0) (.string ⟨#[]⟩) (.int .i64 0) (.int .i64 0) (.slice none 0 0) (.slice none 0 0) (.slice none 0 0))) :
    EndZ w1 B k (put10 W k (.int .i64 0) (.bool false) (.int .i64 0) (.int .i64 0) (.string ⟨#[]⟩) (.int .i64 0) (.int .i64 0) (.slice none 0 0) (.slice none 0 0) (.slice none 0 0)) :=
  ⟨t.2.1, by have := t.1.1; simpa using this, h.1.out.1⟩
theorem endZ_new (t : TypeId) (hB : B ≤ W.heap.size) (h : HeldL w1 B g n q bk o u bk2 o2 uu (W.alloc (.cells (zl 0).toArray t))) : EndZ w1 B W.heap.size (W.alloc (.cells (zl 0).toArray t)) := ⟨hB, by simp, h.1.out.1⟩

/-- Insert from within the region. -/
theorem ins_atL {m : List L5} {n' : Nat} {e : L5} {d : D2} (hs : SrcL w1 B g n q l bk o u bk2 o2 uu) (h : HeldL w1 B g n q bk o u bk2 o2 uu W) (hn : n = l.length) (hsm : SmallX l) (hok : okX l e = true) (hi : insL l e d = some m) (hn' : n' = m.length) :
    Calls Try.prog 5 #[llV n q, lv e, dv d] W fun r w' => ∃ q', r = .returned (.tuple #[llV n' q', .int .i64 0]) ∧ FOwn W.heap.size w' q'.lo (flatL m) ∧ B ≤ W.heap.size ∧ Below W.heap.size W w' := by
  refine (inss_yes W m n n' hn (hs.hr.later (hs.hB.symm ▸ h.1.out.1)) hsm hok hi hn').mono ?_
  rintro r w' ⟨q', h1, h2, h3⟩
  exact ⟨q', h1, h2, h.1.out.2, h3⟩
theorem ins_rangeL {e : L5} {d : D2} (hs : SrcL w1 B g n q l bk o u bk2 o2 uu) (h : HeldL w1 B g n q bk o u bk2 o2 uu W) (hn : n = l.length) (hsm : SmallX l) (hok : okX l e = true) (hi : insL l e d = none) :
    Calls Try.prog 5 #[llV n q, lv e, dv d] W fun r w' => r = .returned (.tuple #[zv 0, .int .i64 1001]) ∧ B ≤ W.heap.size ∧ Below W.heap.size W w' := by
  refine (inss_range W n hn (hs.hr.later (hs.hB.symm ▸ h.1.out.1)) hsm hok hi).mono ?_
  rintro r w' ⟨h1, h3⟩
  exact ⟨h1, h.1.out.2, h3⟩
theorem ins_noL {e : L5} {d : D2} (hs : SrcL w1 B g n q l bk o u bk2 o2 uu) (h : HeldL w1 B g n q bk o u bk2 o2 uu W) (hn : n = l.length) (hsm : SmallX l) (hv : e.val.size ≤ maxLen) (hok : okX l e = false) :
    Calls Try.prog 5 #[llV n q, lv e, dv d] W fun r w' => r = .returned (.tuple #[zv 0, .int .i64 1000]) ∧ B ≤ W.heap.size ∧ Below W.heap.size W w' := by
  refine (inss_no W n hn (hs.hr.later (hs.hB.symm ▸ h.1.out.1)) hsm hv hok).mono ?_
  rintro r w' ⟨h1, h3⟩
  exact ⟨h1, h.1.out.2, h3⟩
end

/-- The answer written over the list: a round's end. -/
theorem roundL {h : Nat} {w w4 : World} {g i n' B : Nat} {q q' : Pl} {l' : List L5} {L : List (Nat × List Value)} (H : Has w4 g (llL i q)) (hR : Regs h w w4 L) (O : FOwn B w4 q'.lo (flatL l')) (hg : h ≤ g) (hB : g < B) (hL : ∀ e ∈ L, e.1 ≠ g) :
    Regs h w (put10 w4 g (.int .i64 3) (.bool false) (.int .i64 0) (.int .i64 0) (.string ⟨#[]⟩) (.int .i64 0) (.int .i64 0) (.slice q'.eo 0 q'.ec) (.slice q'.lo n' q'.lc) (.slice q'.so 0 q'.sc)) ((g, llL n' q') :: L) ∧ FOwn (g + 1) (put10 w4 g (.int .i64 3) (.bool false) (.int .i64 0) (.int .i64 0) (.string ⟨#[]⟩) (.int .i64 0) (.int .i64 0) (.slice q'.eo 0 q'.ec) (.slice q'.lo n' q'.lc) (.slice q'.so 0 q'.sc)) q'.lo (flatL l') := by
  refine ⟨⟨H.put10 _ _ _ _ _ _ _ _ _ _, ?_⟩, (O.put10 hB _ _ _ _ _ _ _ _ _ _).mono (by omega)⟩
  induction L with
  | nil => exact ⟨below_put10 hR.1 hg _ _ _ _ _ _ _ _ _ _, by have := hR.2; simpa using this⟩
  | cons e L ih =>
    refine ⟨?_, ih hR.2 fun x hx => hL x (by simp [hx])⟩
    have hne := hL e (by simp)
    repeat apply Has.other (hk := by exact hne.symm)
    exact hR.1

end Go.Proofs.Ytghlegidapmpmaa
