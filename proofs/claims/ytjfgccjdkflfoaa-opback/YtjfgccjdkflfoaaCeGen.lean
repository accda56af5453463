/-
  Cells, what every layer of cells uses: bare ones; what a call that turns a cell begins with and keeps; what a law keeps in blocks of its own.
-/
import Derived.Test.YtjfgccjdkflfoaaCeSpoil
import Derived.Test.YtjfgccjdkflfoaaCeFresh
namespace Go.Proofs.Ytjfgccjdkflfoaa
open Go.RowKit
set_option linter.unusedVariables false
set_option linter.unusedSimpArgs false

theorem Has.two {w : World} {g : Nat} {u0 u1 : Value} (h : Has w g [u0, u1]) : w.cell? ⟨g, 0, none⟩ = some u0 ∧ w.cell? ⟨g, 1, none⟩ = some u1 := ⟨h.at 0 rfl, h.at 1 rfl⟩

/-- What a call of Set begins with: the cell, the stamp, room for the answer. -/
def Set3 (w : World) (h : Nat) (c : Ce) (p : Pl) (t n : Int) (w1 : World) : Prop := Below h w w1 ∧ Has w1 h (ceL c p) ∧ Has w1 (h + 1) [.int .i64 t, .int .i64 n] ∧ Has w1 (h + 2) (ceL ce0 pl0)

theorem set3_new (w : World) (c : Ce) (p : Pl) (t n : Int) (t1 t2 t3 : TypeId) : Set3 w w.heap.size c p t n (((w.alloc (.cells (ceL c p).toArray t1)).alloc (.cells #[.int .i64 t, .int .i64 n] t2)).alloc (.cells (ceL ce0 pl0).toArray t3)) := by
  refine ⟨(((Below.refl _ _).alloc (Nat.le_refl _) _).alloc (by simp) _).alloc (by simp; omega) _, ((has_new _ _ _).alloc _).alloc _, ?_, ?_⟩
  · have := (has_new (w.alloc (.cells (ceL c p).toArray t1)) [.int .i64 t, .int .i64 n] t2).alloc (.cells (ceL ce0 pl0).toArray t3)
    simpa using this
  · have := has_new ((w.alloc (.cells (ceL c p).toArray t1)).alloc (.cells #[.int .i64 t, .int .i64 n] t2)) (ceL ce0 pl0) t3
    simpa using this

theorem Set3.size {w w1 : World} {h : Nat} {c : Ce} {p : Pl} {t n : Int} (H : Set3 w h c p t n w1) : h + 3 ≤ w1.heap.size := by have := H.2.2.2.1; omega

theorem Set3.later {w w1 w2 : World} {h : Nat} {c : Ce} {p : Pl} {t n : Int} (H : Set3 w h c p t n w1) (hb : Below w1.heap.size w1 w2) : Set3 w h c p t n w2 :=
  ⟨H.1.trans (hb.mono (by have := H.size; omega)), H.2.1.later hb, H.2.2.1.later hb, H.2.2.2.later hb⟩

/-- What Set keeps once the copy is made: the answer to be lies in block k. -/
def Set4 (w1 : World) (k : Nat) (d : Ce) (q : Pl) (w2 : World) : Prop := Below k w1 w2 ∧ Has w2 k (ceL d q)

theorem Set4.later {w1 w2 w3 : World} {k : Nat} {d : Ce} {q : Pl} (H : Set4 w1 k d q w2) (hb : Below w2.heap.size w2 w3) : Set4 w1 k d q w3 := ⟨H.1.trans (hb.mono (by have := H.2.1; omega)), H.2.later hb⟩

theorem set4_new {w1 : World} {k : Nat} (hk : w1.heap.size = k) (c : Ce) (q : Pl) (t1 : TypeId) : Set4 w1 k c q (w1.alloc (.cells (ceL c q).toArray t1)) := by
  subst hk
  exact ⟨(Below.refl _ _).alloc (Nat.le_refl _) _, has_new _ _ _⟩

/-- What the document's Set keeps once the copy is made. -/
def RSt (w : World) (h : Nat) (c : Ce) (q : Pl) (W : World) : Prop := Below h w W ∧ Has W (h + 2) (ceL ce0 pl0) ∧ COwn (h + 3) W c q

theorem RSt.set {w W : World} {h : Nat} {c : Ce} {q : Pl} (H : RSt w h c q W) (o : Nat) (v : Value) : RSt w h c q (W.setCell ⟨h, o, none⟩ v) :=
  ⟨H.1.setCell (p := ⟨h, o, none⟩) (Nat.le_refl _) _, H.2.1.other (by omega) _ _, H.2.2.off (by omega) _ _⟩

theorem RSt.put {w W : World} {h : Nat} {c : Ce} {q : Pl} (H : RSt w h c q W) (u0 u1 u2 u3 u4 u5 u6 u7 u8 u9 : Value) : RSt w h c q (put10 W h u0 u1 u2 u3 u4 u5 u6 u7 u8 u9) :=
  (((((((((H.set 0 u0).set 1 u1).set 2 u2).set 3 u3).set 4 u4).set 5 u5).set 6 u6).set 7 u7).set 8 u8).set 9 u9

theorem RSt.later {w W W2 : World} {h : Nat} {c : Ce} {q : Pl} (H : RSt w h c q W) (hb : Below W.heap.size W W2) : RSt w h c q W2 :=
  ⟨H.1.trans (hb.mono (by have := H.2.1.1; omega)), H.2.1.later hb, H.2.2.later hb⟩

theorem Set3.copied {w w2 : World} {h : Nat} {c : Ce} {p q : Pl} {t n : Int} (H : Set3 w h c p t n w2) : Set3 w h c q t n (put10 w2 h (.int .i64 c.kind) (.bool c.set) (.int .i64 c.time) (.int .i64 c.node) (.string c.val) (.int .i64 c.re) (.int .i64 c.im) (.slice q.eo c.ents.length q.ec) (.slice q.lo c.elems.length q.lc) (.slice q.so c.seen.length q.sc)) := by
  refine ⟨below_put10 H.1 (Nat.le_refl _) _ _ _ _ _ _ _ _ _ _, H.2.1.put10 _ _ _ _ _ _ _ _ _ _, ?_, ?_⟩
  · repeat apply Has.other (hk := by omega)
    exact H.2.2.1
  · repeat apply Has.other (hk := by omega)
    exact H.2.2.2

theorem fit_bare {c : Ce} (h1 : c.ents = []) (h2 : c.elems = []) (h3 : c.seen.length ≤ 1000) (h4 : c.val.size ≤ 1000000) : Fit c := by
  refine ⟨by rw [h1]; simp, by rw [h2]; simp, by omega, by omega, fun i x hx => ?_, fun i x hx => ?_⟩
  · rw [h1] at hx; simp at hx
  · rw [h2] at hx; simp at hx

theorem fit_none : Fit ce0 := fit_bare rfl rfl (by decide) (by decide)

theorem row_none (w : World) : CRow w ce0 pl0 := ⟨FRow.nil _ _, FRow.nil _ _, FRow.nil _ _⟩

theorem own_none0 (B : Nat) (w : World) : COwn B w ce0 pl0 := ⟨FOwn.nil _ _ _, FOwn.nil _ _ _, FOwn.nil _ _ _⟩

/-- The cell of nothing but a kind. -/
abbrev zl (k : Int) : List Value := [.int .i64 k, .bool false, .int .i64 0, .int .i64 0, .string ⟨#[]⟩, .int .i64 0, .int .i64 0, .slice none 0 0, .slice none 0 0, .slice none 0 0]

abbrev zv (k : Int) : Value := .agg #[.int .i64 k, .bool false, .int .i64 0, .int .i64 0, .string ⟨#[]⟩, .int .i64 0, .int .i64 0, .slice none 0 0, .slice none 0 0, .slice none 0 0]

theorem nils_all {c : Ce} {q : Pl} (h1 : c.ents.length = 0) (h2 : c.elems.length = 0) (h3 : c.seen.length = 0) (h : Nils c q) : q = pl0 := by
  obtain ⟨eo, ec, lo, lc, so, sc⟩ := q
  obtain ⟨a, b⟩ := h.1 h1
  obtain ⟨a', b'⟩ := h.2.1 h2
  obtain ⟨a'', b''⟩ := h.2.2 h3
  simp only at a b a' b' a'' b''
  subst a b a' b' a'' b''
  rfl

theorem bare_row (w : World) {c : Ce} (h1 : c.ents = []) (h2 : c.elems = []) (h3 : c.seen = []) (q : Pl) : CRow w c q := ⟨by rw [h1]; exact FRow.nil _ _, by rw [h2]; exact FRow.nil _ _, by rw [h3]; exact FRow.nil _ _⟩

/-- The blocks of the list hold its cells, and nothing below h has turned. -/
def Regs (h : Nat) (w w1 : World) : List (Nat × List Value) → Prop
  | [] => Below h w w1 ∧ h ≤ w1.heap.size
  | e :: L => Has w1 e.1 e.2 ∧ Regs h w w1 L

theorem Regs.base {h : Nat} {w w1 : World} {L : List (Nat × List Value)} (H : Regs h w w1 L) : Below h w w1 ∧ h ≤ w1.heap.size := by
  induction L with
  | nil => exact H
  | cons e L ih => exact ih H.2

theorem Regs.later {h : Nat} {w w1 w2 : World} {L : List (Nat × List Value)} (H : Regs h w w1 L) (hb : Below w1.heap.size w1 w2) : Regs h w w2 L := by
  induction L with
  | nil => exact ⟨H.1.trans (hb.mono H.2), Nat.le_trans H.2 hb.size⟩
  | cons e L ih => exact ⟨H.1.later hb, ih H.2⟩

theorem Regs.push {h : Nat} {w w1 : World} {L : List (Nat × List Value)} (H : Regs h w w1 L) {g : Nat} (hg : w1.heap.size = g) (xs : List Value) (t : TypeId) : Regs h w (w1.alloc (.cells xs.toArray t)) ((g, xs) :: L) :=
  ⟨hg ▸ has_new w1 xs t, H.later ((Below.refl _ _).alloc (Nat.le_refl _) _)⟩

/-- What the law begins with. -/
def L2 (w : World) (h : Nat) (c : Ce) (p : Pl) (t n : Int) (w1 : World) : Prop := Below h w w1 ∧ Has w1 h (ceL c p) ∧ Has w1 (h + 1) [.int .i64 t, .int .i64 n]

theorem L2.size {w w1 : World} {h : Nat} {c : Ce} {p : Pl} {t n : Int} (H : L2 w h c p t n w1) : h + 2 ≤ w1.heap.size := by have := H.2.2.1; omega

theorem l2_new (w : World) (c : Ce) (p : Pl) (t n : Int) (t1 t2 : TypeId) : L2 w w.heap.size c p t n ((w.alloc (.cells (ceL c p).toArray t1)).alloc (.cells #[.int .i64 t, .int .i64 n] t2)) := by
  refine ⟨((Below.refl _ _).alloc (Nat.le_refl _) _).alloc (by simp) _, (has_new _ _ _).alloc _, ?_⟩
  have := has_new (w.alloc (.cells (ceL c p).toArray t1)) [.int .i64 t, .int .i64 n] t2
  simpa using this

theorem L2.later {w w1 w2 : World} {h : Nat} {c : Ce} {p : Pl} {t n : Int} (H : L2 w h c p t n w1) (hb : Below w1.heap.size w1 w2) : L2 w h c p t n w2 :=
  ⟨H.1.trans (hb.mono (by have := H.size; omega)), H.2.1.later hb, H.2.2.later hb⟩

end Go.Proofs.Ytjfgccjdkflfoaa
